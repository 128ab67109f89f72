/-
  Texts of this claim joined into one: EqStore, FactOf, IntRow, IntArg, BindsFP, LawArg, LawPat, LawPatS, LawExpr, LawExprS, LawAct, LawActS.
-/
import Derived.Test.YtfgigcdfmkfkjaaJoined3
import Derived.Deep.RegionHeld3
import Derived.Test.YtfgigcdfmkfkjaaJoined1
import Derived.Deep.QuietTactic
import Derived.BigQuiet
import Derived.Handy
import Derived.Test.YtfgigcdfmkfkjaaJoined2
import Derived.Deep.DeepCutAuto
/-
  The contracts of the laws' own comparison of items and stores: what is plainly the same is found the same.
-/
namespace Go.Proofs.Ytfgigcdfmkfkjaa
open Go.RowKit
set_option linter.unusedVariables false

set_option maxRecDepth 100000 in
set_option maxHeartbeats 1600000 in
theorem eqItem_same (id : Int) (kd : ByteArray) (a b : Option Addr) (ca cb : Nat) (L : List V3) (w : World) (hr : RdV w a L) (hq : RdV w b L) (hn : L.length ≤ 1048580) :
    Calls Try.prog 107 #[.agg #[.int .i64 id, .string kd, .slice a L.length ca], .agg #[.int .i64 id, .string kd, .slice b L.length cb]] w fun e w' =>
      e = .returned (.bool true) ∧ Below w.heap.size w w' := by
  have k1 : (id != id) = false := by simp
  have b0 := below_al w (.cells #[.int .i64 id, .string kd, .slice a L.length ca] 122)
  have b1 := b0.alloc b0.size (.cells #[.int .i64 id, .string kd, .slice b L.length cb] 122)
  go_enter Try.func107, Try.ntmps107
  go_wp2_with fail
  refine (eqFact_same kd a b ca cb L _ (hr.below b1) (hq.below b1) hn).mono ?_
  rintro e w1 ⟨rfl, hb⟩
  have hB : Below w.heap.size w w1 := b1.trans (hb.mono b1.size)
  go_wp2
  go_ret
  exact ⟨rfl, hB⟩
theorem eqItem_of (id id' : Int) (kd kd' : ByteArray) (a b : Option Addr) (ca cb : Nat) (L M : List V3) (w : World) (hr : RdV w a L) (hq : RdV w b M) (hn : L.length ≤ 1048580) (h1 : id = id') (h2 : kd = kd') (h3 : L = M) :
    Calls Try.prog 107 #[.agg #[.int .i64 id, .string kd, .slice a L.length ca], .agg #[.int .i64 id', .string kd', .slice b M.length cb]] w fun e w' =>
      e = .returned (.bool true) ∧ Below w.heap.size w w' := by subst h1 h2 h3; exact eqItem_same id kd a b ca cb L w hr hq hn
/-- two items in memory, their lists, and all that was there at the head -/
theorem keepI {w0 W w' : World} {B : Nat} {p0 p1 p2 p3 p4 p5 : Addr} {v0 v1 v2 v3 v4 v5 : Value} {a b : Option Addr} {L M : List V3} (hb : Below W.heap.size W w')
    (h : W.cell? p0 = some v0 ∧ W.cell? p1 = some v1 ∧ W.cell? p2 = some v2 ∧ W.cell? p3 = some v3 ∧ W.cell? p4 = some v4 ∧ W.cell? p5 = some v5 ∧ Two w0 B a b L M W) :
    w'.cell? p0 = some v0 ∧ w'.cell? p1 = some v1 ∧ w'.cell? p2 = some v2 ∧ w'.cell? p3 = some v3 ∧ w'.cell? p4 = some v4 ∧ w'.cell? p5 = some v5 ∧ Two w0 B a b L M w' := by
  obtain ⟨h0, h1, h2, h3, h4, h5, h6⟩ := h
  have k : ∀ {a : Addr} {v : Value}, W.cell? a = some v → w'.cell? a = some v := fun {a v} h => by rw [hb.cell (World.block_lt_of_cell? W _ h)]; exact h
  exact ⟨k h0, k h1, k h2, k h3, k h4, k h5, h6.keep hb⟩

set_option maxRecDepth 100000 in
set_option maxHeartbeats 3200000 in
theorem eqItemS_same (a b : Option Addr) (ca cb n : Nat) (J K : List It) (w : World) (hr : RdI w a J) (hq : RdI w b K) (hJ : J.length = n) (hpl : J.map It.pl = K.map It.pl) (hm : n ≤ 1048580) (hl : ∀ i, i < J.length → (iAt J i).L.length ≤ 1048580) :
    Calls Try.prog 68 #[.slice a n ca, .slice b n cb] w fun e w' =>
      e = .returned (.bool true) ∧ Below w.heap.size w w' := by
  have HJ := hide hJ
  have HK : Hid (K.length = n) := by unfold Hid; rw [← hJ, pl_len hpl]
  have HP := hide hpl
  have HL := hide hl
  clear hJ hpl hl
  have hnn : ((n : Int) != (n : Int)) = false := by simp
  go_enter Try.func68, Try.ntmps68
  go_wp2
  go_loopw [5] (fun i wr => ∃ (k : Nat), k ≤ n ∧ i = .int .i64 k ∧ Below w.heap.size w wr) (fun i _ => n - (intOf i).toNat)
  case atStart => exact ⟨0, Nat.zero_le _, rfl, Below.refl _ _⟩
  case round =>
    obtain ⟨k, hk, rfl, hbel⟩ := hrel
    by_cases hlt : k < n
    · obtain ⟨b1, o1, e1, hbw1, hc1⟩ := hr.open (by rw [HJ.out]; omega)
      obtain ⟨b2, o2, e2, hbw2, hc2⟩ := hq.open (by rw [HK.out]; omega)
      obtain ⟨c0, c1, c2, hv1⟩ := hc1 k (by rw [HJ.out]; exact hlt)
      obtain ⟨d0, d1, d2, hv2⟩ := hc2 k (by rw [HK.out]; exact hlt)
      have HP1 := pl_at HP.out (i := k) (by rw [HJ.out]; exact hlt)
      have HLk := hide (HL.out k (by rw [HJ.out]; exact hlt))
      replace hv1 := hv1.below hbel
      replace hv2 := hv2.below hbel
      clear hc1 hc2
      subst e1 e2
      rw [← hbel.cell (p := ⟨b1, o1 + k * 3, none⟩) hbw1] at c0
      rw [← hbel.cell (p := ⟨b1, o1 + k * 3 + 1, none⟩) hbw1] at c1
      rw [← hbel.cell (p := ⟨b1, o1 + k * 3 + 2, none⟩) hbw1] at c2
      rw [← hbel.cell (p := ⟨b2, o2 + k * 3, none⟩) hbw2] at d0
      rw [← hbel.cell (p := ⟨b2, o2 + k * 3 + 1, none⟩) hbw2] at d1
      rw [← hbel.cell (p := ⟨b2, o2 + k * 3 + 2, none⟩) hbw2] at d2
      generalize iAt J k = x at c0 c1 c2 hv1 HP1 HLk
      generalize iAt K k = y at d0 d1 d2 hv2 HP1
      obtain ⟨id, kd, va, vc, L⟩ := x
      obtain ⟨id', kd', vb, wc, M⟩ := y
      simp only at c0 c1 c2 hv1 d0 d1 d2 hv2 HP1 HLk
      obtain ⟨rfl, rfl, rfl⟩ := HP1
      have T0 : Two w w.heap.size va vb L L wr := ⟨hv1, hv2, hbel, hbel.size⟩
      clear hv1 hv2 hbel
      go_wp2_with fail
      go_region_held3 (fun W => W.cell? ⟨b1, o1 + k * 3, none⟩ = some (.int .i64 id) ∧ W.cell? ⟨b1, o1 + k * 3 + 1, none⟩ = some (.string kd) ∧ W.cell? ⟨b1, o1 + k * 3 + 2, none⟩ = some (.slice va L.length vc) ∧ W.cell? ⟨b2, o2 + k * 3, none⟩ = some (.int .i64 id) ∧ W.cell? ⟨b2, o2 + k * 3 + 1, none⟩ = some (.string kd) ∧ W.cell? ⟨b2, o2 + k * 3 + 2, none⟩ = some (.slice vb L.length wc) ∧ Two w w.heap.size va vb L L W) (first | exact ⟨c0, c1, c2, d0, d1, d2, T0.drew⟩ | exact keepI (by assumption) (by assumption))
        (first | (go_at_call 107; refine (eqItem_same _ _ _ _ _ _ _ _ T0.drew.1 T0.drew.2.1 HLk.out).mono ?_; rintro e w2 ⟨rfl, hb⟩))
      all_goals
        obtain ⟨-, -, -, -, -, -, T2⟩ : w2.cell? ⟨b1, o1 + k * 3, none⟩ = some (.int .i64 id) ∧ w2.cell? ⟨b1, o1 + k * 3 + 1, none⟩ = some (.string kd) ∧ w2.cell? ⟨b1, o1 + k * 3 + 2, none⟩ = some (.slice va L.length vc) ∧ w2.cell? ⟨b2, o2 + k * 3, none⟩ = some (.int .i64 id) ∧ w2.cell? ⟨b2, o2 + k * 3 + 1, none⟩ = some (.string kd) ∧ w2.cell? ⟨b2, o2 + k * 3 + 2, none⟩ = some (.slice vb L.length wc) ∧ Two w w.heap.size va vb L L w2 := by assumption
        have hB2 := T2.2.2.1
        go_wp2
        go_roundw
        case rel => exact ⟨k + 1, by omega, by go_num, hB2⟩
        case measure => simp [intOf]; omega
    · go_wp2
      go_ret
      exact ⟨rfl, hbel⟩

set_option maxRecDepth 100000 in
set_option maxHeartbeats 1600000 in
theorem eqStore_same (a b : Option Addr) (ca cb n : Nat) (nx : Int) (J K : List It) (w : World) (hr : RdI w a J) (hq : RdI w b K) (hJ : J.length = n) (hpl : J.map It.pl = K.map It.pl) (hm : n ≤ 1048580) (hl : ∀ i, i < J.length → (iAt J i).L.length ≤ 1048580) :
    Calls Try.prog 25 #[.agg #[.slice a n ca, .int .i64 nx], .agg #[.slice b n cb, .int .i64 nx]] w fun e w' =>
      e = .returned (.bool true) ∧ Below w.heap.size w w' := by
  have k1 : (nx != nx) = false := by simp
  have b0 := below_al w (.cells #[.slice a n ca, .int .i64 nx] 53)
  have b1 := b0.alloc b0.size (.cells #[.slice b n cb, .int .i64 nx] 53)
  have hA := box_old (box2_new w (.slice a n ca) (.int .i64 nx) 53) (by simp) (.cells #[.slice b n cb, .int .i64 nx] 53)
  have hC := box2_new (w.alloc (.cells #[.slice a n ca, .int .i64 nx] 53)) (.slice b n cb) (.int .i64 nx) 53
  simp only [World.size_alloc] at hA hC
  go_enter Try.func25, Try.ntmps25
  go_wp2_with fail
  refine (eqItemS_same a b ca cb n J K _ (hr.below b1) (hq.below b1) hJ hpl hm hl).mono ?_
  rintro e w1 ⟨rfl, hb⟩
  have hB : Below w.heap.size w w1 := b1.trans (hb.mono b1.size)
  obtain ⟨a0, a1, -, -⟩ := box2_cell (box_below hA hb (by simp; omega))
  obtain ⟨d0, d1, -, -⟩ := box2_cell (box_below hC hb (by simp))
  clear hA hC hb b0 b1 hr hq hpl hl
  go_wp2
  go_ret
  exact ⟨rfl, hB⟩
end Go.Proofs.Ytfgigcdfmkfkjaa
/-
  What FactOf answers, the tested one and the model's alike: a copy of the first item's fact that has this Id, and true; the zero fact and false where there is none.
-/
namespace Go.Proofs.Ytfgigcdfmkfkjaa
open Go.RowKit
set_option linter.unusedVariables false

/-- the fact of the first item of this Id -/
def facP : List P4 → Int → Option (ByteArray × List V3)
  | [], _ => none
  | p :: r, id => if p.id = id then some (p.kd, p.L) else facP r id
theorem facP_hit {id : Int} : ∀ {J : List It} {k : Nat}, k < J.length → (∀ j, j < k → (iAt J j).id ≠ id) → (iAt J k).id = id → facP (J.map It.pl) id = some ((iAt J k).kd, (iAt J k).L)
  | [], k, h, _, _ => absurd h (Nat.not_lt_zero _)
  | x :: r, 0, h, _, hs => by
    have e : iAt (x :: r) 0 = x := rfl
    rw [e] at hs ⊢
    show (if x.id = id then _ else _) = _
    rw [if_pos hs]; rfl
  | x :: r, k + 1, h, hn, hs => by
    have e : ∀ j, iAt (x :: r) (j + 1) = iAt r j := fun j => by simp [iAt, List.getD]
    have h0 := hn 0 (by omega)
    have e0 : iAt (x :: r) 0 = x := rfl
    rw [e0] at h0
    show (if x.id = id then _ else facP (r.map It.pl) id) = _
    rw [if_neg h0, e]
    rw [e] at hs
    exact facP_hit (by simpa using h) (fun j hj => by have := hn (j + 1) (by omega); rw [e] at this; exact this) hs
theorem facP_none {id : Int} : ∀ {J : List It}, (∀ j, j < J.length → (iAt J j).id ≠ id) → facP (J.map It.pl) id = none
  | [], _ => rfl
  | x :: r, hn => by
    have e : ∀ j, iAt (x :: r) (j + 1) = iAt r j := fun j => by simp [iAt, List.getD]
    have h0 := hn 0 (by simp)
    have e0 : iAt (x :: r) 0 = x := rfl
    rw [e0] at h0
    show (if x.id = id then _ else facP (r.map It.pl) id) = _
    rw [if_neg h0]
    exact facP_none (fun j hj => by have := hn (j + 1) (by simpa using hj); rw [e] at this; exact this)
/-- what is answered, none being the zero fact -/
def ansP (o : Option (ByteArray × List V3)) : ByteArray × List V3 × Bool := match o with
  | some (kd, L) => (kd, L, true)
  | none => (⟨#[]⟩, [], false)
/-- a fact is answered, its values in a row of the call's own -/
def GivesFO (e : Ending) (w : World) (base : Nat) (r : ByteArray × List V3 × Bool) : Prop := ∃ a c, e = .returned (.tuple #[.agg #[.string r.1, .slice a r.2.1.length c], .bool r.2.2]) ∧ NewV w base a c r.2.1

set_option maxRecDepth 100000 in
set_option maxHeartbeats 3200000 in
theorem specFactOf_any (a : Option Addr) (n cap : Nat) (nx id : Int) (J : List It) (w : World) (hr : RdI w a J) (hJ : J.length = n) (hn : n ≤ 1048580) (hl : ∀ i, i < J.length → (iAt J i).L.length ≤ 1048580) :
    Calls Try.prog 53 #[.agg #[.slice a n cap, .int .i64 nx], .int .i64 id] w fun e w' => GivesFO e w' w.heap.size (ansP (facP (J.map It.pl) id)) ∧ Below w.heap.size w w' := by
  have HJ := hide hJ
  have HL := hide hl
  clear hJ hl
  have b0 := below_al w (.cells #[.slice a n cap, .int .i64 nx] 53)
  have b1 := b0.alloc b0.size (.cells #[.string ⟨#[]⟩, .slice none 0 0] 89)
  have hA := box_old (box2_new w (.slice a n cap) (.int .i64 nx) 53) (by simp) (.cells #[.string ⟨#[]⟩, .slice none 0 0] 89)
  have hR := box2_new (w.alloc (.cells #[.slice a n cap, .int .i64 nx] 53)) (.string ⟨#[]⟩) (.slice none 0 0) 89
  simp only [World.size_alloc] at hA hR
  obtain ⟨x0, -, -, -⟩ := box2_cell hA
  replace hr := hr.below b1
  have hz1 := (Array.getElem?_eq_some_iff.1 hA).1
  have HR := hide hR
  go_enter Try.func53, Try.ntmps53
  go_wp2
  generalize (w.alloc (.cells #[.slice a n cap, .int .i64 nx] 53)).alloc (.cells #[.string ⟨#[]⟩, .slice none 0 0] 89) = w1 at b1 hr x0 hz1 HR ⊢
  clear b0 hA hR
  go_loopw [6] (fun i wr => ∃ (k : Nat), k ≤ n ∧ i = .int .i64 k ∧ (∀ j, j < k → (iAt J j).id ≠ id) ∧ wr = w1) (fun i _ => n - (intOf i).toNat)
  case atStart => exact ⟨0, Nat.zero_le _, rfl, fun j hj => absurd hj (Nat.not_lt_zero _), rfl⟩
  case round =>
    obtain ⟨k, hk, rfl, hno, rfl⟩ := hrel
    have HNo := hide hno
    clear hno
    by_cases hlt : k < n
    · obtain ⟨b2, o2, e2, hbw2, hc2⟩ := hr.open (by rw [HJ.out]; omega)
      obtain ⟨c0, c1, c2, hv⟩ := hc2 k (by rw [HJ.out]; exact hlt)
      have HLk := hide (HL.out k (by rw [HJ.out]; exact hlt))
      have HHit := hide (facP_hit (id := id) (k := k) (J := J) (by rw [HJ.out]; exact hlt) HNo.out)
      clear hc2
      subst e2
      obtain ⟨x, hx⟩ : ∃ x, x = iAt J k := ⟨_, rfl⟩
      rw [← hx] at c0 c1 c2 hv HLk HHit
      have HX := hide hx
      clear hx
      obtain ⟨id', kd', va, vc, L⟩ := x
      simp only at c0 c1 c2 hv HLk HHit
      cases hs : (id' == id)
      · go_wp2
        go_roundw
        case rel => exact ⟨k + 1, by omega, by go_num, fun j hj => by
          by_cases hjk : j = k
          · rw [hjk, ← HX.out]; simpa using hs
          · exact HNo.out j (by omega), trivial⟩
        case measure => simp [intOf]; omega
      · have HH := hide (HHit.out (by simpa using hs))
        go_wp2_with fail
        refine (l3Copy_any kd' va vc L _ hv HLk.out).mono ?_
        rintro e w2 ⟨a', c', rfl, hv2, hb2⟩
        have hB2 : Below w.heap.size w w2 := b1.trans (hb2.mono b1.size)
        have hR2 := box_step HR.out hb2
        obtain ⟨z0, z1, zf0, zf1⟩ := box2_cell hR2
        have hgz := (Array.getElem?_eq_some_iff.1 HR.out).1
        go_wp2
        refine box2_post hR2 (fun w4 h4 gr => ?_)
        clear z0 z1 zf0 zf1
        obtain ⟨d0, d1, -, -⟩ := box2_cell h4
        exact bodyPost_ret (v := .tuple #[.agg #[.string kd', .slice a' L.length c'], .bool true]) (by simp [results, Try.results53, go_sem, d0, d1]) rfl
          ⟨by rw [HH.out]; exact ⟨a', c', rfl, (hv2.grown gr hgz).low b1.size⟩, below_set hB2 gr (by omega)⟩
    · have HH : Hid (facP (J.map It.pl) id = none) := facP_none (fun j hj => HNo.out j (by rw [HJ.out] at hj; omega))
      obtain ⟨z0, z1, zf0, zf1⟩ := box2_cell HR.out
      go_wp2
      refine box2_post HR.out (fun w4 h4 gr => ?_)
      clear z0 z1 zf0 zf1
      obtain ⟨d0, d1, -, -⟩ := box2_cell h4
      exact bodyPost_ret (v := .tuple #[.agg #[.string ⟨#[]⟩, .slice none 0 0], .bool false]) (by simp [results, Try.results53, go_sem, d0, d1]) rfl
        ⟨by rw [HH.out]; exact ⟨none, 0, rfl, NewV.nil _ _⟩, below_set b1 gr (by omega)⟩

set_option maxRecDepth 100000 in
set_option maxHeartbeats 3200000 in
theorem implFactOf_any (a : Option Addr) (n cap : Nat) (nx id : Int) (J : List It) (w : World) (hr : RdI w a J) (hJ : J.length = n) (hn : n ≤ 1048580) (hl : ∀ i, i < J.length → (iAt J i).L.length ≤ 1048580) (hli : ∀ i, i < J.length → LieV (iAt J i).a (iAt J i).L.length (iAt J i).cap) :
    Calls Try.prog 61 #[.agg #[.slice a n cap, .int .i64 nx], .int .i64 id] w fun e w' => GivesFO e w' w.heap.size (ansP (facP (J.map It.pl) id)) ∧ Below w.heap.size w w' := by
  have HJ := hide hJ
  have HL := hide hl
  have HLi := hide hli
  clear hJ hl hli
  have b0 := below_al w (.cells #[.slice a n cap, .int .i64 nx] 53)
  have b1 := b0.alloc b0.size (.cells #[.string ⟨#[]⟩, .slice none 0 0] 89)
  have hR := box2_new (w.alloc (.cells #[.slice a n cap, .int .i64 nx] 53)) (.string ⟨#[]⟩) (.slice none 0 0) 89
  simp only [World.size_alloc] at hR
  replace hr := hr.below b1
  have HR := hide hR
  go_enter Try.func61, Try.ntmps61
  go_wp2
  generalize (w.alloc (.cells #[.slice a n cap, .int .i64 nx] 53)).alloc (.cells #[.string ⟨#[]⟩, .slice none 0 0] 89) = w1 at b1 hr HR ⊢
  clear b0 hR
  go_loopw [11] (fun i wr => ∃ (k : Nat), k ≤ n ∧ i = .int .i64 k ∧ (∀ j, j < k → (iAt J j).id ≠ id) ∧ Below w1.heap.size w1 wr) (fun i _ => n - (intOf i).toNat)
  case atStart => exact ⟨0, Nat.zero_le _, rfl, fun j hj => absurd hj (Nat.not_lt_zero _), Below.refl _ _⟩
  case round =>
    obtain ⟨k, hk, rfl, hno, hbel⟩ := hrel
    have HNo := hide hno
    clear hno
    have hB : Below w.heap.size w wr := b1.trans (hbel.mono b1.size)
    have HRr := hide (box_step HR.out hbel)
    by_cases hlt : k < n
    · obtain ⟨b2, o2, e2, hbw2, hc2⟩ := (hr.below hbel).open (by rw [HJ.out]; omega)
      obtain ⟨c0, c1, c2, hv⟩ := hc2 k (by rw [HJ.out]; exact hlt)
      have HLk := hide (HL.out k (by rw [HJ.out]; exact hlt))
      have HLik := hide (HLi.out k (by rw [HJ.out]; exact hlt))
      have HHit := hide (facP_hit (id := id) (k := k) (J := J) (by rw [HJ.out]; exact hlt) HNo.out)
      clear hc2
      subst e2
      obtain ⟨x, hx⟩ : ∃ x, x = iAt J k := ⟨_, rfl⟩
      rw [← hx] at c0 c1 c2 hv HLk HLik HHit
      have HX := hide hx
      clear hx
      obtain ⟨id', kd', va, vc, L⟩ := x
      simp only at c0 c1 c2 hv HLk HLik HHit
      have ba := below_al wr (.cells #[.int .i64 id', .string kd', .slice va L.length vc] 122)
      have hba : Below w1.heap.size w1 (wr.alloc (.cells #[.int .i64 id', .string kd', .slice va L.length vc] 122)) := hbel.trans (ba.mono hbel.size)
      cases hs : (id' == id)
      · go_wp2
        go_roundw
        case rel => exact ⟨k + 1, by omega, by go_num, fun j hj => by
          by_cases hjk : j = k
          · rw [hjk, ← HX.out]; simpa using hs
          · exact HNo.out j (by omega), hba⟩
        case measure => simp [intOf]; omega
      · have HH := hide (HHit.out (by simpa using hs))
        go_wp2_with fail
        refine (copyFact_any kd' va vc L _ (hv.below ba) HLik.out HLk.out).mono ?_
        rintro e w2 ⟨a', c', rfl, hv2, hb2⟩
        have hb3 : Below wr.heap.size wr w2 := ba.trans (hb2.mono ba.size)
        have hB2 : Below w.heap.size w w2 := hB.trans (hb3.mono hB.size)
        have hR2 := box_step HRr.out hb3
        obtain ⟨z0, z1, zf0, zf1⟩ := box2_cell hR2
        have hgz := (Array.getElem?_eq_some_iff.1 HRr.out).1
        have hws := hB.size
        clear hb2 ba hba c0 c1 c2 hv
        go_wp2
        refine box2_post hR2 (fun w4 h4 gr => ?_)
        clear z0 z1 zf0 zf1
        obtain ⟨d0, d1, -, -⟩ := box2_cell h4
        exact bodyPost_ret (v := .tuple #[.agg #[.string kd', .slice a' L.length c'], .bool true]) (by simp [results, Try.results61, go_sem, d0, d1]) rfl
          ⟨by rw [HH.out]; exact ⟨a', c', rfl, (hv2.grown gr (by simp; omega)).low (by simp; omega)⟩, below_set hB2 gr (by omega)⟩
    · have HH : Hid (facP (J.map It.pl) id = none) := facP_none (fun j hj => HNo.out j (by rw [HJ.out] at hj; omega))
      obtain ⟨z0, z1, zf0, zf1⟩ := box2_cell HRr.out
      go_wp2
      refine box2_post HRr.out (fun w4 h4 gr => ?_)
      clear z0 z1 zf0 zf1
      obtain ⟨d0, d1, -, -⟩ := box2_cell h4
      exact bodyPost_ret (v := .tuple #[.agg #[.string ⟨#[]⟩, .slice none 0 0], .bool false]) (by simp [results, Try.results61, go_sem, d0, d1]) rfl
        ⟨by rw [HH.out]; exact ⟨none, 0, rfl, NewV.nil _ _⟩, below_set hB gr (by omega)⟩
end Go.Proofs.Ytfgigcdfmkfkjaa
/-
  Rows of numbers: what a slice of them reads as (RdN), and the contracts of the laws' own helpers on them.
-/
namespace Go.Proofs.Ytfgigcdfmkfkjaa
open Go.RowKit
set_option linter.unusedVariables false

def valsN (zs : List Int) : List Value := zs.map (Value.int .i64)
def zAt (zs : List Int) (i : Nat) : Int := zs.getD i 0
theorem zAt_in {zs : List Int} {i : Nat} (h : i < zs.length) : zAt zs i = zs[i] := by simp [zAt, List.getD, h]
theorem valsN_length (zs : List Int) : (valsN zs).length = zs.length := by simp [valsN]
theorem valsN_get {zs : List Int} {i : Nat} (h : i < zs.length) : (valsN zs)[i]? = some (.int .i64 (zAt zs i)) := by rw [zAt_in h]; simp [valsN, h]
def RdN (w : World) (a : Option Addr) (zs : List Int) : Prop := ∀ i, i < zs.length → ∃ b off, a = some ⟨b, off, none⟩ ∧ w.cell? ⟨b, off + i, none⟩ = some (.int .i64 (zAt zs i))
theorem RdN.open {w : World} {a : Option Addr} {zs : List Int} (h : RdN w a zs) (hp : 0 < zs.length) :
    ∃ b off, a = some ⟨b, off, none⟩ ∧ b < w.heap.size ∧ ∀ i, i < zs.length → w.cell? ⟨b, off + i, none⟩ = some (.int .i64 (zAt zs i)) := by
  obtain ⟨b, off, rfl, h0⟩ := h 0 hp
  refine ⟨b, off, rfl, World.block_lt_of_cell? w _ h0, fun i hi => ?_⟩
  obtain ⟨b2, off2, e, h1⟩ := h i hi
  simp only [Option.some.injEq, Addr.mk.injEq] at e
  rw [e.1, e.2.1]; exact h1
theorem rdN_owns {w : World} {base n : Nat} {T : TypeId} {v : Value} {zs : List Int} (h : w.ownsRow base T 1 v n (valsN zs)) :
    ∃ a cap, v = .slice a zs.length cap ∧ RdN w a zs ∧ n = zs.length := by
  have hn : n = zs.length := by have := h.1; rw [valsN_length] at this; omega
  subst hn
  rcases h.2 with ⟨rfl, h0⟩ | ⟨g, cap, cur, rfl, hb, hg, hnc, hcm, hsz, htake⟩
  · exact ⟨none, 0, by rw [h0], fun i hi => by omega, rfl⟩
  · refine ⟨_, cap, rfl, fun i hi => ⟨g, 0, rfl, ?_⟩, rfl⟩
    have e0 := h.cellAt i (by omega)
    rw [Nat.zero_add, e0]; exact valsN_get hi
theorem rdN_of {w : World} {base n m c : Nat} {T : TypeId} {a : Option Addr} {zs : List Int} (h : w.ownsRow base T 1 (.slice a m c) n (valsN zs)) : RdN w a zs := by
  obtain ⟨a', c', e, hr, -⟩ := rdN_owns h
  simp only [Value.slice.injEq] at e
  rw [e.1]; exact hr
theorem below_dn' {w u : World} {n : Nat} (k : Below (w.drewN n).heap.size (w.drewN n) u) : Below w.heap.size w u :=
  (show Below w.heap.size w (w.drewN n) from ⟨rfl, rfl, rfl, Nat.le_refl _, fun _ _ => rfl⟩).trans k

set_option maxRecDepth 100000 in
set_option maxHeartbeats 1600000 in
theorem eqIntS_same (a b : Option Addr) (n ca cb : Nat) (zs : List Int) (w : World) (hz : zs.length = n) (hr : RdN w a zs) (hq : RdN w b zs) (hn : n ≤ 1048580) :
    Calls Try.prog 26 #[.slice a n ca, .slice b n cb] w fun e w' => e = .returned (.bool true) ∧ Below w.heap.size w w' := by
  have HZ := hide hz
  clear hz
  have hnn : ((n : Int) != (n : Int)) = false := by simp
  go_enter Try.func26, Try.ntmps26
  go_wp2
  go_loopw [5] (fun i wr => ∃ (k nd : Nat), k ≤ n ∧ i = .int .i64 k ∧ wr = w.drewN nd) (fun i _ => n - (intOf i).toNat)
  case atStart => exact ⟨0, 0, Nat.zero_le _, rfl, rfl⟩
  case round =>
    obtain ⟨k, nd, hk, rfl, rfl⟩ := hrel
    by_cases hlt : k < n
    · obtain ⟨b1, o1, e1, -, hc1⟩ := hr.open (by rw [HZ.out]; omega)
      obtain ⟨b2, o2, e2, -, hc2⟩ := hq.open (by rw [HZ.out]; omega)
      have c0 := hc1 k (by rw [HZ.out]; exact hlt)
      have d0 := hc2 k (by rw [HZ.out]; exact hlt)
      have l1 : (k : Int) < (n : Int) := by omega
      clear hc1 hc2
      subst e1 e2
      generalize zAt zs k = z at c0 d0
      have k1 : (z != z) = false := by simp
      go_wp2
      go_quiet (fail)
      go_wp2
      go_roundw
      case rel => exact ⟨k + 1, _, by omega, by go_num, rfl⟩
      case measure => simp [intOf]; omega
    · go_wp2
      go_ret
      exact ⟨rfl, below_dn' (Below.refl _ _)⟩

def marksN (k n : Nat) : List Int := (List.range n).map fun i => ((k + i : Nat) : Int)
theorem marksN_length (k n : Nat) : (marksN k n).length = n := by simp [marksN]
theorem marksN_succ (k n : Nat) : marksN k (n + 1) = marksN k n ++ [((k + n : Nat) : Int)] := by simp [marksN, List.range_succ]
theorem marksN_at {k n i : Nat} (h : i < n) : zAt (marksN k n) i = ((k + i : Nat) : Int) := by
  rw [zAt_in (by rw [marksN_length]; exact h)]; simp [marksN]
def partN (xs : List Value) (k j : Nat) : List Value := valsN (marksN k j) ++ xs.drop j
theorem partN_set {xs : List Value} {k j : Nat} (h : j < xs.length) : (partN xs k j).set j (.int .i64 ((k + j : Nat) : Int)) = partN xs k (j + 1) := by
  unfold partN
  have hl : (valsN (marksN k j)).length = j := by rw [valsN_length, marksN_length]
  rw [List.set_append_right _ _ (by omega), hl, Nat.sub_self, List.drop_eq_getElem_cons h, List.set_cons_zero, marksN_succ]
  simp [valsN]
theorem partN_end {xs : List Value} {k j : Nat} (h : xs.length ≤ j) : partN xs k j = valsN (marksN k j) := by
  unfold partN; rw [List.drop_eq_nil_of_le h, List.append_nil]
theorem partN_length {xs : List Value} {k j : Nat} (h : j ≤ xs.length) : (partN xs k j).length = xs.length := by
  unfold partN; rw [List.length_append, valsN_length, marksN_length, List.length_drop]; omega
theorem grown_t {a b c : World} {row : Option Nat} (h : a.grownBy b row) (k : b.grownBy c row) : a.grownBy c row :=
  ⟨k.os.trans h.os, k.tape.trans h.tape, k.output.trans h.output, Nat.le_trans h.size k.size, fun i hi hne => (k.block i (Nat.lt_of_lt_of_le hi h.size) hne).trans (h.block i hi hne)⟩

set_option maxRecDepth 100000 in
set_option maxHeartbeats 1600000 in
theorem markIntS_any (g n cap base k0 : Nat) (xs : List Value) (w : World) (hown : w.ownsRow base 3 1 (.slice (some ⟨g, 0, none⟩) n cap) n xs) (hn : n ≤ 33554500) (hk : k0 ≤ 33554500) :
    Calls Try.prog 29 #[.slice (some ⟨g, 0, none⟩) n cap, .int .i64 (k0 : Int)] w fun e w' =>
      e = .returned (.int .i64 ((k0 + n : Nat) : Int)) ∧ w'.ownsRow base 3 1 (.slice (some ⟨g, 0, none⟩) n cap) n (valsN (marksN k0 n)) ∧ w.grownBy w' (some g) := by
  have HX : Hid (xs.length = n) := by have := hown.1; unfold Hid; omega
  have hown0 := hide hown
  clear hown
  go_enter Try.func29, Try.ntmps29
  go_wp2
  go_loopw [1, 5] (fun kk i wr => ∃ j : Nat, j ≤ n ∧ i = .int .i64 j ∧ kk = .int .i64 ((k0 + j : Nat) : Int) ∧ wr.ownsRow base 3 1 (.slice (some ⟨g, 0, none⟩) n cap) n (partN xs k0 j) ∧ w.grownBy wr (some g)) (fun _ i _ => n - (intOf i).toNat)
  case atStart => exact ⟨0, Nat.zero_le _, rfl, rfl, hown0.out, World.grownBy.refl _ _⟩
  case round =>
    obtain ⟨j, hj, rfl, rfl, hown, hgr⟩ := hrel
    by_cases hlt : j < n
    · obtain ⟨u, h2⟩ : ∃ u, wr.cell? ⟨g, j, none⟩ = some u := by
        rw [hown.cellAt j (by omega), List.getElem?_eq_getElem (by rw [partN_length (by rw [HX.out]; exact hj), HX.out]; exact hlt)]
        exact ⟨_, rfl⟩
      have h3 : wr.frozen? ⟨g, j, none⟩ = false := hown.frozenAt j
      have HO := hide (hown.stored j (.int .i64 ((k0 + j : Nat) : Int)))
      rw [partN_set (by rw [HX.out]; exact hlt)] at HO
      clear hown
      go_wp2
      go_roundw
      case rel =>
        refine ⟨j + 1, by omega, by go_num, by go_num, ?_⟩
        have HO2 := HO.out
        rw [Int.natCast_add] at HO2
        exact ⟨HO2.1, grown_t hgr HO2.2⟩
      case measure => simp [intOf]; omega
    · have hjn : j = n := by omega
      have HZ : Hid (wr.ownsRow base 3 1 (.slice (some ⟨g, 0, none⟩) n cap) n (valsN (marksN k0 n))) := by
        unfold Hid
        rw [partN_end (by rw [HX.out]; omega), hjn] at hown
        exact hown
      have HJ := hide hjn
      clear hown hjn
      go_wp2
      go_ret
      exact ⟨ret_int (by rw [HJ.out]), HZ.out, hgr⟩

set_option maxRecDepth 100000 in
set_option maxHeartbeats 1600000 in
theorem markIntS_nil (w : World) : Calls Try.prog 29 #[.slice none 0 0, .int .i64 1] w fun e w' => e = .returned (.int .i64 1) ∧ w' = w := by
  go_enter Try.func29, Try.ntmps29
  go_wp2
  go_rounds 1
  go_ret
  exact ⟨rfl, rfl⟩
theorem markIntS_row (base n : Nat) (v : Value) (zs : List Int) (w : World) (hown : w.ownsRow base 3 1 v n (valsN zs)) (hn : n ≤ 33554400) :
    Calls Try.prog 29 #[v, .int .i64 1] w fun e w' =>
      e = .returned (.int .i64 ((1 + n : Nat) : Int)) ∧ w'.ownsRow base 3 1 v n (valsN (marksN 1 n)) ∧ w.grownBy w' v.ownBlock := by
  rcases hown.2 with ⟨rfl, h0⟩ | ⟨g, cap, cur, rfl, hb, rest⟩
  · refine (markIntS_nil w).mono fun e w' h => ?_
    obtain ⟨h1, rfl⟩ := h
    subst h0
    exact ⟨by rw [h1]; rfl, World.ownsRow_nil _ _ _ _, World.grownBy.refl _ _⟩
  · exact markIntS_any g n cap base 1 _ w hown (by omega) (by omega)

end Go.Proofs.Ytfgigcdfmkfkjaa
/-
  A row of numbers that came in, and the contracts of the laws' own helpers on it: szIntS counts off, toIntS copies.
-/
namespace Go.Proofs.Ytfgigcdfmkfkjaa
open Go.ChangeShapes Go.WideShapes Go.ChangeAt Go.RowKit Go.Joins Go.Deep
set_option linter.unusedVariables false
set_option maxRecDepth 100000

def IsInts (w : World) (a : Option Addr) (len cap : Nat) (zs : List Int) : Prop := zs.length = len ∧ len ≤ maxLen ∧ RdN w a zs
theorem RdN.below {w w' : World} {a : Option Addr} {zs : List Int} (h : RdN w a zs) (hb : Below w.heap.size w w') : RdN w' a zs := by
  intro i hi
  obtain ⟨b, off, e, h0⟩ := h i hi
  refine ⟨b, off, e, ?_⟩
  rw [hb.cell (World.block_lt_of_cell? w _ h0)]; exact h0
theorem RdN.heap {w w' : World} {a : Option Addr} {zs : List Int} (h : RdN w a zs) (hb : w'.heap = w.heap) : RdN w' a zs := by
  intro i hi
  obtain ⟨b, off, e, h0⟩ := h i hi
  exact ⟨b, off, e, by rw [show ∀ p, w'.cell? p = w.cell? p from fun p => by simp [World.cell?, hb]]; exact h0⟩
theorem RdN.nil (w : World) (a : Option Addr) : RdN w a [] := fun i hi => absurd hi (Nat.not_lt_zero _)
theorem int_cells {H : Type} {enc : TypeId × Value → H} {w : World} {base : Nat} {spare : Nat → Bool} {held : Bool} {n : Nat} {cs : List Value} {x : DataW H × List MemPlace}
    (h : DataW.trod enc Try.prog w base spare held n 3 cs = some x) : ∃ K, cs = [.int .i64 K] := by
  obtain ⟨K, eK, _, _⟩ := DataW.trod_int Try.underlying3 h
  exact ⟨K, eK⟩
theorem ints_in {H : Type} {enc : TypeId × Value → H} {w : World} {spare : Nat → Bool} {held : Bool} {n : Nat} {v : Value} {x : DataW H × List MemPlace}
    (h : DataW.trod enc Try.prog w 0 spare held n 22 [v] = some x) : ∃ a len cap zs, v = .slice a len cap ∧ IsInts w a len cap zs := by
  have hc : Try.prog.cellsOf 3 = 1 := by kernel_rfl
  rcases open_slice Try.underlying22 h with ⟨h0, _⟩ | ⟨a, len, cap, m, n', D, Pl, h0, hb, hl, hm, hmm, _, hx⟩
  · simp only [List.cons.injEq, and_true] at h0
    exact ⟨none, 0, 0, [], h0, rfl, Nat.zero_le _, RdN.nil _ _⟩
  · simp only [List.cons.injEq, and_true] at h0
    have hlm : len ≤ m := by rw [hmm]; split <;> omega
    obtain ⟨F, hF⟩ := choose_lt (α := Int) (n := len) (p := fun i v => w.cells? 0 (a.add (i * 1)) 1 = some [.int .i64 v]) (fun i hi => by
      obtain ⟨cs', h1, h2⟩ := hx i (by omega)
      rw [hc] at h1
      obtain ⟨K, rfl⟩ := int_cells h2
      exact ⟨K, h1⟩)
    refine ⟨some a, len, cap, (List.range len).map F, h0, by simp, Nat.le_trans hl hm, fun i hi => ?_⟩
    have hi2 : i < len := by simpa using hi
    obtain ⟨_, _, hcell⟩ := World.cells?_some (hF i hi2)
    obtain ⟨b, off, spot⟩ := a
    have e0 := hcell 0 (by omega)
    rw [add_add] at e0
    have hs : spot = none := by
      obtain ⟨_, _, hcell0⟩ := World.cells?_some (hF 0 (by omega))
      have e := hcell0 0 (by omega)
      rw [add_add] at e
      simp only [List.getElem?_cons_zero] at e
      simpa [Addr.add] using World.cell?_spot e
    subst hs
    refine ⟨b, off, rfl, ?_⟩
    rw [zAt_in hi]
    simp only [List.getElem_map, List.getElem_range]
    rw [Addr.add_lit] at e0
    simpa using e0

set_option maxHeartbeats 1600000 in
theorem szIntS_any (a : Option Addr) (n cap : Nat) (left : Int) (w : World) (hm : n ≤ maxLen) (h0 : 0 ≤ left) (h1 : left ≤ 1048576) :
    Calls Try.prog 46 #[.slice a n cap, .int .i64 left] w fun e w' => (∃ r, e = .returned (.int .i64 r) ∧ (r = -1 ∨ (0 ≤ r ∧ r + (n : Int) ≤ left))) ∧ Below w.heap.size w w' := by
  unfold maxLen at hm
  by_cases h2 : left - (n : Int) < 0
  · go_enter Try.func46, Try.ntmps46
    go_wp2
    go_ret
    exact ⟨⟨-1, rfl, .inl rfl⟩, Below.refl _ _⟩
  · go_enter Try.func46, Try.ntmps46
    go_wp2
    go_ret
    exact ⟨⟨left - n, rfl, .inr ⟨by omega, by omega⟩⟩, Below.refl _ _⟩

theorem valsN_part {zs : List Int} {k : Nat} (h : k < zs.length) : (valsN (partK zs 0 k)).set k (.int .i64 (zAt zs k)) = valsN (partK zs 0 (k + 1)) := by
  rw [← partK_set h]
  have e : eAt zs k = zAt zs k := rfl
  rw [e]
  simp [valsN, List.map_set]
theorem infoInt : (Try.prog.info? 3).map (fun i => (i.zero, i.size, i.bytes)) = some (some (.int .i64 0), 1, 8) := by kernel_rfl
set_option maxHeartbeats 1600000 in
theorem toIntS_at (a : Option Addr) (n cap : Nat) (zs : List Int) (w : World) (hr : RdN w a zs) (hz : zs.length = n) (hn : n ≤ 1048576) :
    Calls Try.prog 21 #[.slice a n cap] w fun e w' =>
      e = .returned (.slice (some ⟨w.heap.size, 0, none⟩) n n) ∧ w'.ownsRow w.heap.size 3 1 (.slice (some ⟨w.heap.size, 0, none⟩) n n) n (valsN zs) ∧ Below w.heap.size w w' := by
  obtain ⟨i0, hi, hz0, hz1, hz2⟩ := info_parts infoInt
  have HN := hide hz
  clear hz
  have hmade : (madeCells #[.int .i64 0] n).toList = valsN (List.replicate n 0) := by
    apply List.ext_getElem?
    intro j
    by_cases hj : j < n
    · simp [madeCells, valsN, hj, Nat.mod_one]
    · simp [madeCells, valsN, hj]
  go_enter Try.func21, Try.ntmps21
  go_wp2_with (at_make; refine wpList_make_full _ rfl _ _ 22 rfl w.heap.size 3 i0 (.int .i64 0) 1 Try.underlying22 hi hz0 hz1 _ _ _ _ n rfl rfl (by omega) (by omega) ?b2 ?b3 (Nat.le_refl _) ?_)
  case b2 => rw [hz2]; omega
  case b3 => unfold maxLen; omega
  intro w0 hown0 hgrow0
  have hown0' : w0.ownsRow w.heap.size 3 1 (.slice (some ⟨w.heap.size, 0, none⟩) n n) n (valsN (partK zs 0 0)) := by
    rw [partK_zero, HN.out]
    exact hown0
  clear hown0 hmade
  go_wp2
  go_loopw [4] (fun i wr => ∃ k : Nat, k ≤ n ∧ i = .int .i64 k ∧ wr.ownsRow w.heap.size 3 1 (.slice (some ⟨w.heap.size, 0, none⟩) n n) n (valsN (partK zs 0 k)) ∧ Below w.heap.size w wr)
    (fun i _ => n - (intOf i).toNat)
  case atStart => exact ⟨0, Nat.zero_le _, rfl, hown0', (Below.refl _ _).grown hgrow0 (Nat.le_refl _) (fun k h => by cases h)⟩
  case round =>
    obtain ⟨k, hk, rfl, hown, hbel⟩ := hrel
    by_cases hlt : k < n
    · obtain ⟨b, off, hab, hbw, hc⟩ := hr.open (by rw [HN.out]; omega)
      have c0 := hc k (by rw [HN.out]; exact hlt)
      clear hc
      subst hab
      rw [← hbel.cell (p := ⟨b, off + k, none⟩) hbw] at c0
      have hlen : (valsN (partK zs 0 k)).length = n := by rw [valsN_length, partK_length (by rw [HN.out]; omega), HN.out]
      obtain ⟨u0, m0⟩ : ∃ u, wr.cell? ⟨w.heap.size, k, none⟩ = some u := by
        rw [hown.cellAt k (by omega), List.getElem?_eq_getElem (by omega)]
        exact ⟨_, rfl⟩
      have f0 := hown.frozenAt k
      have HO := hide (hown.stored k (.int .i64 (zAt zs k))).1
      have HB : Hid (Below w.heap.size w (wr.setCell ⟨w.heap.size, k, none⟩ (.int .i64 (zAt zs k)))) := hbel.setCell (Nat.le_refl _) _
      rw [valsN_part (by rw [HN.out]; exact hlt)] at HO
      clear hlen hown hbel
      go_wp2
      go_roundw
      case rel => exact ⟨k + 1, by omega, by go_num, HO.out, HB.out⟩
      case measure => simp [intOf]; omega
    · have HE : Hid (wr.ownsRow w.heap.size 3 1 (.slice (some ⟨w.heap.size, 0, none⟩) n n) n (valsN zs)) := by
        have hkn : k = zs.length := by rw [HN.out]; omega
        rw [hkn, partK_end] at hown
        exact hown
      clear hown
      go_wp2
      go_ret
      exact ⟨rfl, HE.out, hbel⟩
end Go.Proofs.Ytfgigcdfmkfkjaa
/-
  What BindsFor answers, plainly: the items of these numbers bind, one behind the other, by the patterns that are not Not (goB).
-/
namespace Go.Proofs.Ytfgigcdfmkfkjaa
open Go.RowKit
set_option linter.unusedVariables false

def goB (J : List P4) : List PE → List Int → List B4 → Option (List B4)
  | [], [], M => some M
  | [], _ :: _, _ => none
  | _ :: _, [], _ => none
  | p :: r, z :: zs, M => match facP J z with
    | none => none
    | some f => if (matchR p.kd f.1 p.L f.2 M).2 = true then goB J r zs (matchR p.kd f.1 p.L f.2 M).1 else none
def ansB : Option (List B4) → List B4 × Bool
  | some M => (M, true)
  | none => ([], false)
theorem goB_len {J : List P4} : ∀ {P : List PE} {zs : List Int} {M : List B4}, P.length ≠ zs.length → goB J P zs M = none
  | [], [], _, h => absurd rfl h
  | [], _ :: _, _, _ => rfl
  | _ :: _, [], _, _ => rfl
  | p :: r, z :: zs, M, h => by
    rw [goB]
    cases facP J z with
    | none => rfl
    | some f =>
      simp only
      split
      · exact goB_len (by simpa using h)
      · rfl
theorem goB_nofact {J : List P4} {P : List PE} {zs : List Int} {M : List B4} {k : Nat} (hp : k < P.length) (hz : k < zs.length) (h : facP J (zAt zs k) = none) : goB J (P.drop k) (zs.drop k) M = none := by
  rw [List.drop_eq_getElem_cons hp, List.drop_eq_getElem_cons hz, goB, ← zAt_in hz, h]
theorem goB_no {J : List P4} {P : List PE} {zs : List Int} {M : List B4} {k : Nat} {f : ByteArray × List V3} (hp : k < P.length) (hz : k < zs.length) (h : facP J (zAt zs k) = some f) (hm : (matchR (eAt P k).kd f.1 (eAt P k).L f.2 M).2 = false) : goB J (P.drop k) (zs.drop k) M = none := by
  rw [List.drop_eq_getElem_cons hp, List.drop_eq_getElem_cons hz, goB, ← zAt_in hz, h]
  simp only
  rw [← eAt_in hp, if_neg (by rw [hm]; simp)]
theorem goB_step {J : List P4} {P : List PE} {zs : List Int} {M : List B4} {k : Nat} {f : ByteArray × List V3} (hp : k < P.length) (hz : k < zs.length) (h : facP J (zAt zs k) = some f) (hm : (matchR (eAt P k).kd f.1 (eAt P k).L f.2 M).2 = true) : goB J (P.drop k) (zs.drop k) M = goB J (P.drop (k + 1)) (zs.drop (k + 1)) (matchR (eAt P k).kd f.1 (eAt P k).L f.2 M).1 := by
  rw [List.drop_eq_getElem_cons hp, List.drop_eq_getElem_cons hz, goB, ← zAt_in hz, h]
  simp only
  rw [← eAt_in hp, if_pos hm]
theorem goB_end {J : List P4} {P : List PE} {zs : List Int} {M : List B4} {k : Nat} (hp : k = P.length) (hz : k = zs.length) : goB J (P.drop k) (zs.drop k) M = some M := by
  have e1 : P.drop k = [] := by rw [hp, List.drop_length]
  have e2 : zs.drop k = [] := by rw [hz, List.drop_length]
  rw [e1, e2, goB]
theorem goB_short {J : List P4} {P : List PE} {zs : List Int} {M : List B4} {k : Nat} (hp : k < P.length) (hz : zs.length ≤ k) : goB J (P.drop k) (zs.drop k) M = none := by
  rw [List.drop_eq_getElem_cons hp, List.drop_eq_nil_of_le hz, goB]
/-- how many more may be bound by what is left -/
def leftL (P : List PE) : Nat := (P.map (fun p => p.L.length)).sum
theorem leftL_drop {P : List PE} {k : Nat} (h : k < P.length) : leftL (P.drop k) = (eAt P k).L.length + leftL (P.drop (k + 1)) := by
  unfold leftL
  rw [List.drop_eq_getElem_cons h, eAt_in h, List.map_cons, List.sum_cons]
theorem leftL_le (P : List PE) : leftL P ≤ (P.map PE.sz).sum := by
  induction P with
  | nil => simp [leftL]
  | cons p r ih =>
    unfold leftL at *
    simp only [List.map_cons, List.sum_cons]
    unfold PE.sz at *
    omega
theorem leftL_posB (P : List PE) : leftL (posB P) ≤ leftL P := by
  induction P with
  | nil => simp [leftL, posB]
  | cons p r ih =>
    unfold posB at *
    rw [List.filter_cons]
    split
    · simp only [leftL, List.map_cons, List.sum_cons] at *; omega
    · simp only [leftL, List.map_cons, List.sum_cons] at *; omega
theorem matchR_le (kd kd' : ByteArray) (L : List A5) (F : List V3) (M : List B4) : (matchR kd kd' L F M).1.length ≤ M.length + L.length := by
  rcases matchR_cases kd kd' L F M with h | ⟨-, -, M', h1, h2⟩
  · rw [h]; exact Nat.le_add_right _ _
  · rw [h2]; exact matchK_len h1
theorem facP_in {id : Int} : ∀ {J : List P4} {f : ByteArray × List V3}, facP J id = some f → ∃ x ∈ J, x.kd = f.1 ∧ x.L = f.2
  | [], f, h => by simp [facP] at h
  | x :: r, f, h => by
    unfold facP at h
    split at h
    · simp only [Option.some.injEq] at h
      exact ⟨x, List.mem_cons_self, by rw [← h], by rw [← h]⟩
    · obtain ⟨y, hy, h1⟩ := facP_in h
      exact ⟨y, List.mem_cons_of_mem _ hy, h1⟩
theorem posB_drop {P : List PE} {i : Nat} (h : i < P.length) : posB (P.drop i) = if (eAt P i).nt = true then posB (P.drop (i + 1)) else eAt P i :: posB (P.drop (i + 1)) := by
  unfold posB
  rw [List.drop_eq_getElem_cons h, List.filter_cons, eAt_in h]
  cases (P[i]).nt <;> simp
/-- the same plainly -/
theorem goB_pl (J : List P4) : ∀ {P Q : List PE}, P.map PE.pl = Q.map PE.pl → ∀ (zs : List Int) (M : List B4), goB J P zs M = goB J Q zs M
  | [], [], _, _, _ => rfl
  | [], _ :: _, h, _, _ => by simp at h
  | _ :: _, [], h, _, _ => by simp at h
  | p :: r, q :: s, h, [], M => rfl
  | p :: r, q :: s, h, z :: zs, M => by
    simp only [List.map_cons, List.cons.injEq] at h
    obtain ⟨e1, e2, -⟩ := PE.pl_inj h.1
    rw [goB, goB]
    cases facP J z with
    | none => rfl
    | some f => simp only [e1, e2, goB_pl J h.2]
end Go.Proofs.Ytfgigcdfmkfkjaa
/-
  The contracts of the laws' own helpers on Args: to copies, sz counts off, eq finds one the same as itself; so of rows of them.
-/
namespace Go.Proofs.Ytfgigcdfmkfkjaa
open Go.RowKit
set_option linter.unusedVariables false

theorem Try.info157 : (Try.prog.info? 157).map (fun i => (i.zero, i.size, i.bytes)) = some (some (.agg #[.int .i64 0, .string ⟨#[]⟩, .int .i64 0, .int .i64 0, .string ⟨#[]⟩]), 5, 56) := by kernel_rfl

set_option maxRecDepth 100000 in
set_option maxHeartbeats 1600000 in
theorem toArg_any (K : Int) (S : ByteArray) (VK : Int) (VN : Int) (VS : ByteArray) (w : World) :
    Calls Try.prog 127 #[.agg #[.int .i64 K, .string S, .int .i64 VK, .int .i64 VN, .string VS]] w fun e w' => e = .returned (.agg #[.int .i64 K, .string S, .int .i64 VK, .int .i64 VN, .string VS]) ∧ Below w.heap.size w w' := by
  go_enter Try.func127, Try.ntmps127
  go_wp2_with fail
  have b0 := below_al w (.cells #[.int .i64 K, .string S, .int .i64 VK, .int .i64 VN, .string VS] 142)
  have b1 := b0.alloc b0.size (.cells #[.int .i64 0, .string ⟨#[]⟩, .int .i64 0, .int .i64 0, .string ⟨#[]⟩] 157)
  have b2 := b1.alloc b1.size (.cells #[.int .i64 K, .string S, .int .i64 0, .int .i64 0, .string ⟨#[]⟩] 157)
  have hR := box_old (boxk_new (w.alloc (.cells #[.int .i64 K, .string S, .int .i64 VK, .int .i64 VN, .string VS] 142)) #[.int .i64 0, .string ⟨#[]⟩, .int .i64 0, .int .i64 0, .string ⟨#[]⟩] 157) (by simp) (.cells #[.int .i64 K, .string S, .int .i64 0, .int .i64 0, .string ⟨#[]⟩] 157)
  have hX := boxk_new ((w.alloc (.cells #[.int .i64 K, .string S, .int .i64 VK, .int .i64 VN, .string VS] 142)).alloc (.cells #[.int .i64 0, .string ⟨#[]⟩, .int .i64 0, .int .i64 0, .string ⟨#[]⟩] 157)) #[.int .i64 K, .string S, .int .i64 0, .int .i64 0, .string ⟨#[]⟩] 157
  simp only [World.size_alloc] at hR hX
  refine (toVal_any VK VN VS _).mono ?_
  rintro e w1 ⟨rfl, hb⟩
  have HR := hide (box_below hR hb (by simp))
  have HX := hide (box_below hX hb (by simp))
  have hB : Below w.heap.size w w1 := b2.trans (hb.mono b2.size)
  clear hb hR hX b0 b1 b2
  have x0 := boxk_cell HX.out 0 _ rfl
  have xf0 := boxk_frozen HX.out 0
  have r0 := boxk_cell HR.out 0 _ rfl
  have rf0 := boxk_frozen HR.out 0
  have x1 := boxk_cell HX.out 1 _ rfl
  have xf1 := boxk_frozen HX.out 1
  have r1 := boxk_cell HR.out 1 _ rfl
  have rf1 := boxk_frozen HR.out 1
  have x2 := boxk_cell HX.out 2 _ rfl
  have xf2 := boxk_frozen HX.out 2
  have r2 := boxk_cell HR.out 2 _ rfl
  have rf2 := boxk_frozen HR.out 2
  have x3 := boxk_cell HX.out 3 _ rfl
  have xf3 := boxk_frozen HX.out 3
  have r3 := boxk_cell HR.out 3 _ rfl
  have rf3 := boxk_frozen HR.out 3
  have x4 := boxk_cell HX.out 4 _ rfl
  have xf4 := boxk_frozen HX.out 4
  have r4 := boxk_cell HR.out 4 _ rfl
  have rf4 := boxk_frozen HR.out 4
  have HX2 := hide (boxk_set HX.out 2 (.int .i64 VK))
  have HX3 := hide (boxk_set HX2.out.1 3 (.int .i64 VN))
  have HX4 := hide (boxk_set HX3.out.1 4 (.string VS))
  have HR2 := hide (box_gr (box_gr (box_gr HR.out HX2.out.2 (by omega)) HX3.out.2 (by omega)) HX4.out.2 (by omega))
  have HB2 := hide (below_set (below_set (below_set hB HX2.out.2 (by omega)) HX3.out.2 (by omega)) HX4.out.2 (by omega))
  go_wp2
  refine box5_post HR2.out (fun w4 h4 gr => ?_)
  clear x0 xf0 r0 rf0 x1 xf1 r1 rf1 x2 xf2 r2 rf2 x3 xf3 r3 rf3 x4 xf4 r4 rf4
  have c0 := boxk_cell h4 0 _ rfl
  have c1 := boxk_cell h4 1 _ rfl
  have c2 := boxk_cell h4 2 _ rfl
  have c3 := boxk_cell h4 3 _ rfl
  have c4 := boxk_cell h4 4 _ rfl
  exact bodyPost_ret (v := .agg #[.int .i64 K, .string S, .int .i64 VK, .int .i64 VN, .string VS]) (by simp [results, Try.results127, go_sem, c0, c1, c2, c3, c4]) rfl ⟨rfl, below_set HB2.out gr (by omega)⟩

set_option maxRecDepth 100000 in
set_option maxHeartbeats 1600000 in
theorem szArg_any (K : Int) (S : ByteArray) (VK : Int) (VN : Int) (VS : ByteArray) (left : Int) (w : World) (hs : S.size ≤ maxLen) (hv : VS.size ≤ maxLen) (h0 : 0 ≤ left) (h1 : left ≤ 1048576) :
    Calls Try.prog 123 #[.agg #[.int .i64 K, .string S, .int .i64 VK, .int .i64 VN, .string VS], .int .i64 left] w fun e w' =>
      (∃ r, e = .returned (.int .i64 r) ∧ (r = -1 ∨ (0 ≤ r ∧ r + (S.size : Int) + (VS.size : Int) ≤ left))) ∧ Below w.heap.size w w' := by
  have hs0 := hs
  unfold maxLen at hs
  by_cases h2 : left - (S.size : Int) < 0
  · go_enter Try.func123, Try.ntmps123
    go_wp2
    go_ret
    exact ⟨⟨-1, rfl, .inl rfl⟩, by go_grown⟩
  · go_enter Try.func123, Try.ntmps123
    go_wp2_with fail
    have b0 := below_al w (.cells #[.int .i64 K, .string S, .int .i64 VK, .int .i64 VN, .string VS] 142)
    refine (szVal_any VK VN VS (left - (S.size : Int)) _ hv (by omega) (by omega)).mono ?_
    rintro e w1 ⟨rfl, hb1⟩
    have hB1 : Below w.heap.size w w1 := b0.trans (hb1.mono b0.size)
    clear hb1 b0
    by_cases h3 : left - (S.size : Int) - (VS.size : Int) < 0
    · rw [if_pos h3]
      go_wp2
      go_ret
      exact ⟨⟨-1, rfl, .inl rfl⟩, hB1⟩
    · rw [if_neg h3]
      go_wp2
      go_ret
      exact ⟨⟨_, rfl, .inr ⟨by omega, by omega⟩⟩, hB1⟩

set_option maxRecDepth 100000 in
set_option maxHeartbeats 1600000 in
theorem eqArg_same (K : Int) (S : ByteArray) (VK : Int) (VN : Int) (VS : ByteArray) (w : World) :
    Calls Try.prog 136 #[.agg #[.int .i64 K, .string S, .int .i64 VK, .int .i64 VN, .string VS], .agg #[.int .i64 K, .string S, .int .i64 VK, .int .i64 VN, .string VS]] w fun e w' => e = .returned (.bool true) ∧ Below w.heap.size w w' := by
  have kK : (K != K) = false := by simp
  have kS : (S.toList == S.toList) = true := by simp
  go_enter Try.func136, Try.ntmps136
  go_wp2_with fail
  have b0 := below_al w (.cells #[.int .i64 K, .string S, .int .i64 VK, .int .i64 VN, .string VS] 157)
  have b1 := b0.alloc b0.size (.cells #[.int .i64 K, .string S, .int .i64 VK, .int .i64 VN, .string VS] 157)
  refine (eqVal_same VK VN VS _).mono ?_
  rintro e w1 ⟨rfl, hb⟩
  have hB : Below w.heap.size w w1 := b1.trans (hb.mono b1.size)
  go_wp2
  go_ret
  exact ⟨rfl, hB⟩

set_option maxRecDepth 100000 in
set_option maxHeartbeats 1600000 in
theorem toArgS_at (a : Option Addr) (cap : Nat) (L : List A5) (w : World) (hr : RdArg w a L) (hn : L.length ≤ 1048576) :
    Calls Try.prog 126 #[.slice a L.length cap] w fun e w' =>
      e = .returned (.slice (some ⟨w.heap.size, 0, none⟩) L.length L.length) ∧ w'.ownsRow w.heap.size 157 5 (.slice (some ⟨w.heap.size, 0, none⟩) L.length L.length) L.length (rowOf A5.cs L) ∧ Below w.heap.size w w' := by
  obtain ⟨i0, hi, hz0, hz1, hz2⟩ := info_parts Try.info157
  obtain ⟨n, hN⟩ : ∃ n, n = L.length := ⟨_, rfl⟩
  rw [← hN] at hn ⊢
  have HN := hide hN
  clear hN
  have hmade := rowOf_made (f := A5.cs) (x := A5.zero) (cs := #[.int .i64 0, .string ⟨#[]⟩, .int .i64 0, .int .i64 0, .string ⟨#[]⟩]) rfl (by decide) n
  go_enter Try.func126, Try.ntmps126
  go_wp2_with (at_make; refine wpList_make_full _ rfl _ _ 77 rfl w.heap.size 157 i0 (.agg #[.int .i64 0, .string ⟨#[]⟩, .int .i64 0, .int .i64 0, .string ⟨#[]⟩]) 5 Try.underlying77 hi hz0 hz1 _ _ _ _ n rfl rfl (by omega) (by omega) ?b2 ?b3 (Nat.le_refl _) ?_)
  case b2 => rw [hz2]; omega
  case b3 => unfold maxLen; omega
  intro w0 hown0 hgrow0
  have hown0' : w0.ownsRow w.heap.size 157 5 (.slice (some ⟨w.heap.size, 0, none⟩) n n) n (rowOf A5.cs (List.replicate n A5.zero)) := by rw [← hmade]; exact hown0
  clear hown0 hmade
  go_wp2
  go_loopw [4] (fun i wr => ∃ k : Nat, k ≤ n ∧ i = .int .i64 k ∧ wr.ownsRow w.heap.size 157 5 (.slice (some ⟨w.heap.size, 0, none⟩) n n) n (rowOf A5.cs (partK L A5.zero k)) ∧ Below w.heap.size w wr)
    (fun i _ => n - (intOf i).toNat)
  case atStart =>
    refine ⟨0, Nat.zero_le _, rfl, ?_, (Below.refl _ _).grown hgrow0 (Nat.le_refl _) (fun k h => by cases h)⟩
    rw [partK_zero, ← HN.out]
    exact hown0'
  case round =>
    obtain ⟨k, hk, rfl, hown, hbel⟩ := hrel
    by_cases hlt : k < n
    · obtain ⟨b, off, hab, hbw, hc⟩ := RdArg.cells hr (by rw [← HN.out]; omega)
      obtain ⟨c0, c1, c2, c3, c4⟩ := hc k (by rw [← HN.out]; exact hlt)
      clear hc
      subst hab
      rw [← hbel.cell (p := ⟨b, off + k * 5, none⟩) hbw] at c0
      rw [← hbel.cell (p := ⟨b, off + k * 5 + 1, none⟩) hbw] at c1
      rw [← hbel.cell (p := ⟨b, off + k * 5 + 2, none⟩) hbw] at c2
      rw [← hbel.cell (p := ⟨b, off + k * 5 + 3, none⟩) hbw] at c3
      rw [← hbel.cell (p := ⟨b, off + k * 5 + 4, none⟩) hbw] at c4
      go_wp2_with fail
      refine (toArg_any _ _ _ _ _ _).mono ?_
      rintro e w2 ⟨rfl, hb2⟩
      have hown2 : w2.ownsRow w.heap.size 157 5 (.slice (some ⟨w.heap.size, 0, none⟩) n n) n (rowOf A5.cs (partK L A5.zero k)) := ownsRow_below' hown hb2
      have hbel2 : Below w.heap.size w w2 := hbel.trans (hb2.mono hbel.size)
      have hlen : (rowOf A5.cs (partK L A5.zero k)).length = n * 5 := by rw [rowOf_length A5.len, partK_length (by rw [← HN.out]; omega), ← HN.out]
      have hmem : ∀ j, j < 5 → ∃ u, w2.cell? ⟨w.heap.size, k * 5 + j, none⟩ = some u := fun j hj => by
        rw [hown2.cellAt (k * 5 + j) (by omega), List.getElem?_eq_getElem (by omega)]
        exact ⟨_, rfl⟩
      obtain ⟨u0, m0⟩ := hmem 0 (by omega)
      obtain ⟨u1, m1⟩ := hmem 1 (by omega)
      obtain ⟨u2, m2⟩ := hmem 2 (by omega)
      obtain ⟨u3, m3⟩ := hmem 3 (by omega)
      obtain ⟨u4, m4⟩ := hmem 4 (by omega)
      rw [Nat.add_zero] at m0
      have f0 := hown2.frozenAt (k * 5)
      have f1 := hown2.frozenAt (k * 5 + 1)
      have f2 := hown2.frozenAt (k * 5 + 2)
      have f3 := hown2.frozenAt (k * 5 + 3)
      have f4 := hown2.frozenAt (k * 5 + 4)
      have HO := hide (((((hown2.stored (k * 5) (.int .i64 (eAt L k).K)).1.stored (k * 5 + 1) (.string (eAt L k).S)).1.stored (k * 5 + 2) (.int .i64 (eAt L k).V.K)).1.stored (k * 5 + 3) (.int .i64 (eAt L k).V.N)).1.stored (k * 5 + 4) (.string (eAt L k).V.S)).1
      have HB : Hid (Below w.heap.size w (((((w2.setCell ⟨w.heap.size, k * 5, none⟩ (.int .i64 (eAt L k).K)).setCell ⟨w.heap.size, k * 5 + 1, none⟩ (.string (eAt L k).S)).setCell ⟨w.heap.size, k * 5 + 2, none⟩ (.int .i64 (eAt L k).V.K)).setCell ⟨w.heap.size, k * 5 + 3, none⟩ (.int .i64 (eAt L k).V.N)).setCell ⟨w.heap.size, k * 5 + 4, none⟩ (.string (eAt L k).V.S))) := (((((hbel2.setCell (Nat.le_refl _) _).setCell (Nat.le_refl _) _).setCell (Nat.le_refl _) _).setCell (Nat.le_refl _) _).setCell (Nat.le_refl _) _)
      rw [rowOf_set_A5 (eAt L k) _ k (by rw [partK_length (by rw [← HN.out]; omega), ← HN.out]; exact hlt), partK_set (by rw [← HN.out]; exact hlt)] at HO
      clear hmem hlen c0 c1 c2 c3 c4 hown hbel hb2 hown2 hbel2
      go_wp2
      go_roundw
      case rel => exact ⟨k + 1, by omega, by go_num, HO.out, HB.out⟩
      case measure => simp [intOf]; omega
    · have HE : Hid (wr.ownsRow w.heap.size 157 5 (.slice (some ⟨w.heap.size, 0, none⟩) n n) n (rowOf A5.cs L)) := by
        have hkn : k = L.length := by rw [← HN.out]; omega
        rw [hkn, partK_end] at hown
        exact hown
      clear hown
      go_wp2
      go_ret
      exact ⟨rfl, HE.out, hbel⟩

set_option maxRecDepth 100000 in
set_option maxHeartbeats 1600000 in
theorem szArgS_any (a : Option Addr) (cap : Nat) (L : List A5) (left : Int) (w : World) (hr : RdArg w a L) (hs : ∀ x ∈ L, x.fits) (hm : L.length ≤ maxLen) (h0 : 0 ≤ left) (h1 : left ≤ 1048576) :
    Calls Try.prog 122 #[.slice a L.length cap, .int .i64 left] w fun e w' =>
      (∃ r, e = .returned (.int .i64 r) ∧ (r = -1 ∨ (0 ≤ r ∧ r + (L.length : Int) ≤ left ∧ ∀ x ∈ L, x.small))) ∧ Below w.heap.size w w' := by
  unfold maxLen at hm
  obtain ⟨n, hN⟩ : ∃ n, n = L.length := ⟨_, rfl⟩
  rw [← hN] at hm ⊢
  have HN := hide hN
  have HS := hide hs
  clear hN hs
  by_cases h2 : left - (n : Int) < 0
  · go_enter Try.func122, Try.ntmps122
    go_wp2
    go_ret
    exact ⟨⟨-1, rfl, .inl rfl⟩, Below.refl _ _⟩
  · go_enter Try.func122, Try.ntmps122
    go_wp2
    go_loopw [1, 5] (fun l i wr => ∃ (k : Nat) (lf : Int), k ≤ n ∧ i = .int .i64 k ∧ l = .int .i64 lf ∧ 0 ≤ lf ∧ lf ≤ left - n ∧ (∀ j, j < k → (eAt L j).small) ∧ Below w.heap.size w wr) (fun _ i _ => n - (intOf i).toNat)
    case atStart => exact ⟨0, left - n, Nat.zero_le _, rfl, rfl, by omega, Int.le_refl _, fun j hj => absurd hj (Nat.not_lt_zero _), Below.refl _ _⟩
    case round =>
      obtain ⟨k, lf, hk, rfl, rfl, hlf, hle, hsm, hbel⟩ := hrel
      have HSm := hide hsm
      clear hsm
      by_cases hlt : k < n
      · obtain ⟨b, off, hab, hbw, hc⟩ := RdArg.cells hr (by rw [← HN.out]; omega)
        obtain ⟨c0, c1, c2, c3, c4⟩ := hc k (by rw [← HN.out]; exact hlt)
        clear hc
        subst hab
        rw [← hbel.cell (p := ⟨b, off + k * 5, none⟩) hbw] at c0
        rw [← hbel.cell (p := ⟨b, off + k * 5 + 1, none⟩) hbw] at c1
        rw [← hbel.cell (p := ⟨b, off + k * 5 + 2, none⟩) hbw] at c2
        rw [← hbel.cell (p := ⟨b, off + k * 5 + 3, none⟩) hbw] at c3
        rw [← hbel.cell (p := ⟨b, off + k * 5 + 4, none⟩) hbw] at c4
        have hS : (eAt L k).fits := by rw [eAt_in (by rw [← HN.out]; exact hlt)]; exact HS.out _ (List.getElem_mem _)
        obtain ⟨hS0, hS1⟩ := hS
        go_wp2_with fail
        refine (szArg_any _ _ _ _ _ lf _ hS0 hS1 hlf (by omega)).mono ?_
        rintro e w2 ⟨⟨r, rfl, hr2⟩, hb2⟩
        have hbel2 : Below w.heap.size w w2 := hbel.trans (hb2.mono hbel.size)
        clear hb2 c0 c1 c2 c3 c4 hbel
        rcases hr2 with rfl | ⟨h3, h4⟩
        · go_wp2
          go_ret
          exact ⟨⟨-1, rfl, .inl rfl⟩, hbel2⟩
        · have HSk : Hid ((eAt L k).small) := ⟨by omega, by omega⟩
          have h5 : r ≤ lf := by omega
          clear h4
          go_wp2
          go_roundw
          case rel => exact ⟨k + 1, r, by omega, by go_num, rfl, h3, by omega, fun j hj => by
              by_cases hjk : j = k
              · rw [hjk]; exact HSk.out
              · exact HSm.out j (by omega), hbel2⟩
          case measure => simp [intOf]; omega
      · have HAll : Hid (∀ x ∈ L, x.small) := fun x hx => by
          obtain ⟨j, hj, rfl⟩ := List.getElem_of_mem hx
          rw [← eAt_in hj]
          exact HSm.out j (by rw [← HN.out] at hj; omega)
        go_wp2
        go_ret
        exact ⟨⟨lf, rfl, .inr ⟨hlf, by omega, HAll.out⟩⟩, hbel⟩

theorem toArgS_ex (a : Option Addr) (cap : Nat) (L : List A5) (w : World) (hr : RdArg w a L) (hn : L.length ≤ 1048576) :
    Calls Try.prog 126 #[.slice a L.length cap] w fun e w' =>
      ∃ g, e = .returned (.slice (some ⟨g, 0, none⟩) L.length L.length) ∧ w.heap.size ≤ g ∧ OwnArg w' g L.length L ∧ Below w.heap.size w w' :=
  (toArgS_at a cap L w hr hn).mono fun e w' h => ⟨w.heap.size, h.1, Nat.le_refl _, OwnK.of A5.len (by decide) h.2.1, h.2.2⟩

theorem keepArg {w0 W w' : World} {B : Nat} {p0 p1 p2 p3 p4 p5 p6 p7 p8 p9 : Addr} {v0 v1 v2 v3 v4 v5 v6 v7 v8 v9 : Value} (hb : Below W.heap.size W w')
    (h : W.cell? p0 = some v0 ∧ W.cell? p1 = some v1 ∧ W.cell? p2 = some v2 ∧ W.cell? p3 = some v3 ∧ W.cell? p4 = some v4 ∧ W.cell? p5 = some v5 ∧ W.cell? p6 = some v6 ∧ W.cell? p7 = some v7 ∧ W.cell? p8 = some v8 ∧ W.cell? p9 = some v9 ∧ Below B w0 W ∧ B ≤ W.heap.size) :
    w'.cell? p0 = some v0 ∧ w'.cell? p1 = some v1 ∧ w'.cell? p2 = some v2 ∧ w'.cell? p3 = some v3 ∧ w'.cell? p4 = some v4 ∧ w'.cell? p5 = some v5 ∧ w'.cell? p6 = some v6 ∧ w'.cell? p7 = some v7 ∧ w'.cell? p8 = some v8 ∧ w'.cell? p9 = some v9 ∧ Below B w0 w' ∧ B ≤ w'.heap.size := by
  obtain ⟨q0, q1, q2, q3, q4, q5, q6, q7, q8, q9, h6, h7⟩ := h
  have k : ∀ {a : Addr} {v : Value}, W.cell? a = some v → w'.cell? a = some v := fun {a v} h => by rw [hb.cell (World.block_lt_of_cell? W _ h)]; exact h
  exact ⟨k q0, k q1, k q2, k q3, k q4, k q5, k q6, k q7, k q8, k q9, h6.trans (hb.mono h7), Nat.le_trans h7 hb.size⟩
set_option maxRecDepth 100000 in
set_option maxHeartbeats 1600000 in
theorem eqArgS_same (a b : Option Addr) (ca cb : Nat) (L : List A5) (w : World) (hr : RdArg w a L) (hq : RdArg w b L) (hm : L.length ≤ 2097152) :
    Calls Try.prog 135 #[.slice a L.length ca, .slice b L.length cb] w fun e w' =>
      e = .returned (.bool true) ∧ Below w.heap.size w w' := by
  obtain ⟨n, hN⟩ : ∃ n, n = L.length := ⟨_, rfl⟩
  rw [← hN] at hm ⊢
  have HN := hide hN
  clear hN
  have hnn : ((n : Int) != (n : Int)) = false := by simp
  go_enter Try.func135, Try.ntmps135
  go_wp2
  go_loopw [5] (fun i wr => ∃ (k : Nat), k ≤ n ∧ i = .int .i64 k ∧ Below w.heap.size w wr) (fun i _ => n - (intOf i).toNat)
  case atStart => exact ⟨0, Nat.zero_le _, rfl, Below.refl _ _⟩
  case round =>
    obtain ⟨k, hk, rfl, hbel⟩ := hrel
    by_cases hlt : k < n
    · obtain ⟨b1, o1, e1, hbw1, hc1⟩ := RdArg.cells hr (by rw [← HN.out]; omega)
      obtain ⟨b2, o2, e2, hbw2, hc2⟩ := RdArg.cells hq (by rw [← HN.out]; omega)
      obtain ⟨c0, c1, c2, c3, c4⟩ := hc1 k (by rw [← HN.out]; exact hlt)
      obtain ⟨d0, d1, d2, d3, d4⟩ := hc2 k (by rw [← HN.out]; exact hlt)
      clear hc1 hc2
      subst e1 e2
      rw [← hbel.cell (p := ⟨b1, o1 + k * 5, none⟩) hbw1] at c0
      rw [← hbel.cell (p := ⟨b2, o2 + k * 5, none⟩) hbw2] at d0
      rw [← hbel.cell (p := ⟨b1, o1 + k * 5 + 1, none⟩) hbw1] at c1
      rw [← hbel.cell (p := ⟨b2, o2 + k * 5 + 1, none⟩) hbw2] at d1
      rw [← hbel.cell (p := ⟨b1, o1 + k * 5 + 2, none⟩) hbw1] at c2
      rw [← hbel.cell (p := ⟨b2, o2 + k * 5 + 2, none⟩) hbw2] at d2
      rw [← hbel.cell (p := ⟨b1, o1 + k * 5 + 3, none⟩) hbw1] at c3
      rw [← hbel.cell (p := ⟨b2, o2 + k * 5 + 3, none⟩) hbw2] at d3
      rw [← hbel.cell (p := ⟨b1, o1 + k * 5 + 4, none⟩) hbw1] at c4
      rw [← hbel.cell (p := ⟨b2, o2 + k * 5 + 4, none⟩) hbw2] at d4
      generalize (eAt L k).K = K at c0 d0
      generalize (eAt L k).S = S at c1 d1
      generalize (eAt L k).V.K = VK at c2 d2
      generalize (eAt L k).V.N = VN at c3 d3
      generalize (eAt L k).V.S = VS at c4 d4
      go_wp2_with fail
      go_region_held3 (fun W => W.cell? ⟨b1, o1 + k * 5, none⟩ = some (.int .i64 K) ∧ W.cell? ⟨b1, o1 + k * 5 + 1, none⟩ = some (.string S) ∧ W.cell? ⟨b1, o1 + k * 5 + 2, none⟩ = some (.int .i64 VK) ∧ W.cell? ⟨b1, o1 + k * 5 + 3, none⟩ = some (.int .i64 VN) ∧ W.cell? ⟨b1, o1 + k * 5 + 4, none⟩ = some (.string VS) ∧ W.cell? ⟨b2, o2 + k * 5, none⟩ = some (.int .i64 K) ∧ W.cell? ⟨b2, o2 + k * 5 + 1, none⟩ = some (.string S) ∧ W.cell? ⟨b2, o2 + k * 5 + 2, none⟩ = some (.int .i64 VK) ∧ W.cell? ⟨b2, o2 + k * 5 + 3, none⟩ = some (.int .i64 VN) ∧ W.cell? ⟨b2, o2 + k * 5 + 4, none⟩ = some (.string VS) ∧ Below w.heap.size w W ∧ w.heap.size ≤ W.heap.size) (first | exact ⟨c0, c1, c2, c3, c4, d0, d1, d2, d3, d4, hbel.drew, hbel.size⟩ | exact keepArg (by assumption) (by assumption))
        (first | (go_at_call 136; refine (eqArg_same _ _ _ _ _ _).mono ?_; rintro e w2 ⟨rfl, hb⟩))
      all_goals
        obtain ⟨-, -, -, -, -, -, -, -, -, -, hB2, -⟩ : w2.cell? ⟨b1, o1 + k * 5, none⟩ = some (.int .i64 K) ∧ w2.cell? ⟨b1, o1 + k * 5 + 1, none⟩ = some (.string S) ∧ w2.cell? ⟨b1, o1 + k * 5 + 2, none⟩ = some (.int .i64 VK) ∧ w2.cell? ⟨b1, o1 + k * 5 + 3, none⟩ = some (.int .i64 VN) ∧ w2.cell? ⟨b1, o1 + k * 5 + 4, none⟩ = some (.string VS) ∧ w2.cell? ⟨b2, o2 + k * 5, none⟩ = some (.int .i64 K) ∧ w2.cell? ⟨b2, o2 + k * 5 + 1, none⟩ = some (.string S) ∧ w2.cell? ⟨b2, o2 + k * 5 + 2, none⟩ = some (.int .i64 VK) ∧ w2.cell? ⟨b2, o2 + k * 5 + 3, none⟩ = some (.int .i64 VN) ∧ w2.cell? ⟨b2, o2 + k * 5 + 4, none⟩ = some (.string VS) ∧ Below w.heap.size w w2 ∧ w.heap.size ≤ w2.heap.size := by assumption
        go_wp2
        go_roundw
        case rel => exact ⟨k + 1, by omega, by go_num, hB2⟩
        case measure => simp [intOf]; omega
    · go_wp2
      go_ret
      exact ⟨rfl, hbel⟩
end Go.Proofs.Ytfgigcdfmkfkjaa
/-
  The contracts of the laws' own helpers on patterns: toPat copies, szPat counts off, eqPat finds a pattern the same as itself.
-/
namespace Go.Proofs.Ytfgigcdfmkfkjaa
open Go.RowKit
set_option linter.unusedVariables false

set_option maxRecDepth 100000 in
set_option maxHeartbeats 1600000 in
theorem toPat_any (kd : ByteArray) (a : Option Addr) (cap : Nat) (L : List A5) (nt : Bool) (w : World) (hr : RdArg w a L) (hn : L.length ≤ 1048576) :
    Calls Try.prog 94 #[.agg #[.string kd, .slice a L.length cap, .bool nt]] w fun e w' =>
      ∃ g, e = .returned (.agg #[.string kd, .slice (some ⟨g, 0, none⟩) L.length L.length, .bool nt]) ∧ w.heap.size ≤ g ∧ OwnArg w' g L.length L ∧ Below w.heap.size w w' := by
  go_enter Try.func94, Try.ntmps94
  go_wp2_with fail
  have b0 := below_al w (.cells #[.string kd, .slice a L.length cap, .bool nt] 139)
  have b1 := b0.alloc b0.size (.cells #[.string ⟨#[]⟩, .slice none 0 0, .bool false] 79)
  have b2 := b1.alloc b1.size (.cells #[.string kd, .slice none 0 0, .bool false] 79)
  have hP := box_old (box_old (boxk_new w #[.string kd, .slice a L.length cap, .bool nt] 139) (by simp) (.cells #[.string ⟨#[]⟩, .slice none 0 0, .bool false] 79)) (by simp; omega) (.cells #[.string kd, .slice none 0 0, .bool false] 79)
  have hR := box_old (boxk_new (w.alloc (.cells #[.string kd, .slice a L.length cap, .bool nt] 139)) #[.string ⟨#[]⟩, .slice none 0 0, .bool false] 79) (by simp) (.cells #[.string kd, .slice none 0 0, .bool false] 79)
  have hX := boxk_new ((w.alloc (.cells #[.string kd, .slice a L.length cap, .bool nt] 139)).alloc (.cells #[.string ⟨#[]⟩, .slice none 0 0, .bool false] 79)) #[.string kd, .slice none 0 0, .bool false] 79
  simp only [World.size_alloc] at hR hX
  refine (toArgS_at a cap L _ (hr.below b2) hn).mono ?_
  rintro e w1 ⟨rfl, ho, hb⟩
  have HP := hide (box_below hP hb (by simp; omega))
  have HR := hide (box_below hR hb (by simp))
  have HX := hide (box_below hX hb (by simp))
  have hB : Below w.heap.size w w1 := b2.trans (hb.mono b2.size)
  have hO : OwnArg w1 _ _ L := OwnK.of A5.len (by decide) ho
  clear ho hb hR hX hP b0 b1 b2
  simp only [World.size_alloc] at hO ⊢
  have p2 := boxk_cell HP.out 2 _ rfl
  have x0 := boxk_cell HX.out 0 _ rfl
  have x1 := boxk_cell HX.out 1 _ rfl
  have x2 := boxk_cell HX.out 2 _ rfl
  have xf1 := boxk_frozen HX.out 1
  have xf2 := boxk_frozen HX.out 2
  obtain ⟨r0, r1, r2, rf0, rf1, rf2⟩ := box_cell HR.out
  have HX2 := hide (boxk_set HX.out 1 (.slice (some ⟨w.heap.size + 1 + 1 + 1, 0, none⟩) L.length L.length))
  have HX3 := hide (boxk_set HX2.out.1 2 (.bool nt))
  have HR2 := hide (box_gr (box_gr HR.out HX2.out.2 (by omega)) HX3.out.2 (by omega))
  have HB2 := hide (below_set (below_set hB HX2.out.2 (by omega)) HX3.out.2 (by omega))
  have hz := hO.lt
  have HO2 := hide ((hO.grown HX2.out.2 (by omega)).grown HX3.out.2 (by omega))
  clear hO hB
  go_wp2
  refine box_post HR2.out (fun w4 h4 gr => ?_)
  clear x0 x1 x2 xf1 xf2 r0 r1 r2 rf0 rf1 rf2 p2
  obtain ⟨c0, c1, c2, -, -, -⟩ := box_cell h4
  exact bodyPost_ret (v := .agg #[.string kd, .slice (some ⟨w.heap.size + 1 + 1 + 1, 0, none⟩) L.length L.length, .bool nt]) (by simp [results, Try.results94, go_sem, c0, c1, c2]) rfl
    ⟨_, rfl, by omega, HO2.out.grown gr (by omega), below_set HB2.out gr (by omega)⟩

set_option maxRecDepth 100000 in
set_option maxHeartbeats 1600000 in
theorem szPat_any (kd : ByteArray) (a : Option Addr) (cap : Nat) (L : List A5) (nt : Bool) (left : Int) (w : World) (hkd : kd.size ≤ maxLen) (hr : RdArg w a L) (hs : ∀ x ∈ L, x.fits) (hm : L.length ≤ maxLen) (h0 : 0 ≤ left) (h1 : left ≤ 1048576) :
    Calls Try.prog 88 #[.agg #[.string kd, .slice a L.length cap, .bool nt], .int .i64 left] w fun e w' =>
      (∃ r, e = .returned (.int .i64 r) ∧ (r = -1 ∨ (0 ≤ r ∧ r + (kd.size : Int) + (L.length : Int) ≤ left ∧ ∀ x ∈ L, x.small))) ∧ Below w.heap.size w w' := by
  unfold maxLen at hkd
  by_cases h2 : left - (kd.size : Int) < 0
  · go_enter Try.func88, Try.ntmps88
    go_wp2
    go_ret
    exact ⟨⟨-1, rfl, .inl rfl⟩, by go_grown⟩
  · go_enter Try.func88, Try.ntmps88
    go_wp2_with fail
    have b0 := below_al w (.cells #[.string kd, .slice a L.length cap, .bool nt] 139)
    refine (szArgS_any a cap L (left - kd.size) _ (hr.below b0) hs hm (by omega) (by omega)).mono ?_
    rintro e w1 ⟨⟨r, rfl, hr1⟩, hb1⟩
    have hB1 : Below w.heap.size w w1 := b0.trans (hb1.mono b0.size)
    clear hb1
    rcases hr1 with rfl | ⟨hr2, hr3, hsm⟩
    · go_wp2
      go_ret
      exact ⟨⟨-1, rfl, .inl rfl⟩, hB1⟩
    · have HSm := hide hsm
      clear hsm
      go_wp2
      go_ret
      exact ⟨⟨r, rfl, .inr ⟨hr2, by omega, HSm.out⟩⟩, hB1⟩

set_option maxRecDepth 100000 in
set_option maxHeartbeats 1600000 in
theorem eqPat_same (kd : ByteArray) (a b : Option Addr) (ca cb : Nat) (L : List A5) (nt : Bool) (w : World) (hr : RdArg w a L) (hq : RdArg w b L) (hn : L.length ≤ 1048580) :
    Calls Try.prog 104 #[.agg #[.string kd, .slice a L.length ca, .bool nt], .agg #[.string kd, .slice b L.length cb, .bool nt]] w fun e w' =>
      e = .returned (.bool true) ∧ Below w.heap.size w w' := by
  have k1 : (kd.toList == kd.toList) = true := by simp
  have k2 : (nt != nt) = false := by simp
  go_enter Try.func104, Try.ntmps104
  go_wp2_with fail
  have b0 := below_al w (.cells #[.string kd, .slice a L.length ca, .bool nt] 79)
  have b1 := b0.alloc b0.size (.cells #[.string kd, .slice b L.length cb, .bool nt] 79)
  have hP := box_old (boxk_new w #[.string kd, .slice a L.length ca, .bool nt] 79) (by simp) (.cells #[.string kd, .slice b L.length cb, .bool nt] 79)
  have hQ := boxk_new (w.alloc (.cells #[.string kd, .slice a L.length ca, .bool nt] 79)) #[.string kd, .slice b L.length cb, .bool nt] 79
  simp only [World.size_alloc] at hQ
  refine (eqArgS_same a b ca cb L _ (hr.below b1) (hq.below b1) (by omega)).mono ?_
  rintro e w1 ⟨rfl, hb⟩
  have hB : Below w.heap.size w w1 := b1.trans (hb.mono b1.size)
  have p2 := boxk_cell (box_below hP hb (by simp; omega)) 2 _ rfl
  have q2 := boxk_cell (box_below hQ hb (by simp)) 2 _ rfl
  clear hP hQ hb
  go_wp2
  go_ret
  exact ⟨rfl, hB⟩
end Go.Proofs.Ytfgigcdfmkfkjaa
/-
  The contracts of the laws' own helpers on rows of Pats: sz counts off, to copies, eq finds a row the same as its like.
-/
namespace Go.Proofs.Ytfgigcdfmkfkjaa
open Go.RowKit
set_option linter.unusedVariables false

theorem Try.info79D : (Try.prog.info? 79).map (fun i => (i.zero, i.size, i.bytes)) = some (some (.agg #[.string ⟨#[]⟩, .slice none 0 0, .bool false]), 3, 48) := by kernel_rfl

set_option maxRecDepth 100000 in
set_option maxHeartbeats 1600000 in
theorem szPatS_any (a : Option Addr) (cap : Nat) (J : List PE) (left : Int) (w : World) (hr : RdPatS w a J) (hs : ∀ x ∈ J, x.ok) (hm : J.length ≤ maxLen) (h0 : 0 ≤ left) (h1 : left ≤ 1048576) :
    Calls Try.prog 49 #[.slice a J.length cap, .int .i64 left] w fun e w' =>
      (∃ r, e = .returned (.int .i64 r) ∧ (r = -1 ∨ (0 ≤ r ∧ r + ((J.length + (J.map PE.sz).sum : Nat) : Int) ≤ left ∧ ∀ x ∈ J, x.small))) ∧ Below w.heap.size w w' := by
  unfold maxLen at hm
  obtain ⟨n, hN⟩ : ∃ n, n = J.length := ⟨_, rfl⟩
  rw [← hN] at hm ⊢
  have HN := hide hN
  have HS := hide hs
  clear hN hs
  by_cases h2 : left - (n : Int) < 0
  · go_enter Try.func49, Try.ntmps49
    go_wp2
    go_ret
    exact ⟨⟨-1, rfl, .inl rfl⟩, Below.refl _ _⟩
  · go_enter Try.func49, Try.ntmps49
    go_wp2
    go_loopw [1, 5] (fun l i wr => ∃ (k : Nat) (lf : Int), k ≤ n ∧ i = .int .i64 k ∧ l = .int .i64 lf ∧ 0 ≤ lf ∧ lf + (totW PE.sz J k : Int) ≤ left - n ∧ (∀ j, j < k → (eAt J j).small) ∧ Below w.heap.size w wr) (fun _ i _ => n - (intOf i).toNat)
    case atStart => exact ⟨0, left - n, Nat.zero_le _, rfl, rfl, by omega, by rw [totW_zero]; simp, fun j hj => absurd hj (Nat.not_lt_zero _), Below.refl _ _⟩
    case round =>
      obtain ⟨k, lf, hk, rfl, rfl, hlf, hsum, hsm, hbel⟩ := hrel
      have HSm := hide hsm
      clear hsm
      by_cases hlt : k < n
      · obtain ⟨b, off, hab, hbw, hc⟩ := hr.cells (by rw [← HN.out]; omega)
        obtain ⟨c0, c1, c2, hv⟩ := hc k (by rw [← HN.out]; exact hlt)
        have HV := hide (hv.below (hbel.mono (Nat.le_refl _)))
        clear hc hv
        subst hab
        rw [← hbel.cell (p := ⟨b, off + k * 3, none⟩) hbw] at c0
        rw [← hbel.cell (p := ⟨b, off + k * 3 + 1, none⟩) hbw] at c1
        rw [← hbel.cell (p := ⟨b, off + k * 3 + 2, none⟩) hbw] at c2
        have HK : Hid ((eAt J k).ok) := by unfold Hid; rw [eAt_in (by rw [← HN.out]; exact hlt)]; exact HS.out _ (List.getElem_mem _)
        have hst := totW_step (wt := PE.sz) (K := J) (j := k) (by rw [← HN.out]; exact hlt)
        have HSx : Hid ((eAt J k).small → ∀ j, j < k + 1 → (eAt J j).small) := fun hx j hj => by
          by_cases hjk : j = k
          · rw [hjk]; exact hx
          · exact HSm.out j (by omega)
        generalize eAt J k = x at c0 c1 c2 HV HK hst HSx
        obtain ⟨x0, va, vc, L, x2⟩ := x
        rw [show PE.sz ⟨x0, va, vc, L, x2⟩ = x0.size + L.length from rfl] at hst
        simp only at c0 c1 c2 HV HK HSx
        unfold PE.ok at HK
        go_wp2_with fail
        refine (szPat_any x0 va vc L x2 lf _ HK.out.1 HV.out HK.out.2.2 HK.out.2.1 hlf (by omega)).mono ?_
        rintro e w2 ⟨⟨r, rfl, hr1⟩, hb2⟩
        have hbel2 : Below w.heap.size w w2 := hbel.trans (hb2.mono hbel.size)
        clear hb2 c0 c1 c2 hbel
        rcases hr1 with rfl | ⟨hr2, hr3, hr4⟩
        · go_wp2
          go_ret
          exact ⟨⟨-1, rfl, .inl rfl⟩, hbel2⟩
        · have HR : Hid (r + (totW PE.sz J (k + 1) : Int) ≤ left - n) := by unfold Hid; rw [hst]; omega
          have HY := hide (HSx.out ⟨by show x0.size ≤ 1048576; omega, by show L.length ≤ 1048576; omega, hr4⟩)
          have h3 : ¬ (r < 0) := by omega
          clear hr3 hr4 hst hsum HSx
          go_wp2
          go_roundw
          case rel => exact ⟨k + 1, r, by omega, by go_num, rfl, hr2, HR.out, HY.out, hbel2⟩
          case measure => simp [intOf]; omega
      · have HK : Hid (lf + ((n + (J.map PE.sz).sum : Nat) : Int) ≤ left) := by
          unfold Hid
          have hkn : k = J.length := by rw [← HN.out]; omega
          rw [hkn, totW_end] at hsum
          omega
        have HAll : Hid (∀ x ∈ J, x.small) := fun x hx => by
          obtain ⟨j, hj, rfl⟩ := List.getElem_of_mem hx
          rw [← eAt_in hj]
          exact HSm.out j (by rw [← HN.out] at hj; omega)
        clear hsum
        go_wp2
        go_ret
        exact ⟨⟨lf, rfl, .inr ⟨hlf, HK.out, HAll.out⟩⟩, hbel⟩

set_option maxRecDepth 100000 in
set_option maxHeartbeats 3200000 in
theorem toPatS_any (a : Option Addr) (cap : Nat) (J : List PE) (w : World) (hr : RdPatS w a J) (hn : J.length ≤ 1048576) (hl : ∀ x ∈ J, x.L.length ≤ 1048576) :
    Calls Try.prog 55 #[.slice a J.length cap] w fun e w' =>
      ∃ K g, e = .returned (.slice (some ⟨g, 0, none⟩) J.length J.length) ∧ OwnPatS w' w.heap.size w'.heap.size g J.length K K.length ∧ K.map PE.pl = J.map PE.pl ∧ Below w.heap.size w w' := by
  obtain ⟨i0, hi, hz0, hz1, hz2⟩ := info_parts Try.info79D
  obtain ⟨n, hN⟩ : ∃ n, n = J.length := ⟨_, rfl⟩
  rw [← hN] at hn ⊢
  have HN := hide hN
  have HL := hide hl
  clear hN hl
  go_enter Try.func55, Try.ntmps55
  go_wp2_with (at_make; refine wpList_make_full _ rfl _ _ 45 rfl w.heap.size 79 i0 (.agg #[.string ⟨#[]⟩, .slice none 0 0, .bool false]) 3 Try.underlying45 hi hz0 hz1 _ _ _ _ n rfl rfl (by omega) (by omega) ?b2 ?b3 (Nat.le_refl _) ?_)
  case b2 => rw [hz2]; omega
  case b3 => unfold maxLen; omega
  intro w0 hown0 hgrow0
  have hmd : (madeCells #[.string ⟨#[]⟩, .slice none 0 0, .bool false] (n * 3)).toList = rowOf PE.cs (List.replicate n PE.zero) := rowOf_made (x := PE.zero) (cs := #[.string ⟨#[]⟩, .slice none 0 0, .bool false]) rfl (by decide) n
  rw [hmd] at hown0
  clear hmd
  have hs0 : w.heap.size < w0.heap.size := (hown0.lt w.heap.size rfl).2
  have hb0 : Below w.heap.size w w0 := (Below.refl _ _).grown hgrow0 (Nat.le_refl _) (fun k h => by cases h)
  have hO0 : OwnPatS w0 w.heap.size w0.heap.size w.heap.size n (List.replicate n PE.zero) 0 := OwnD.zero (OwnK.of PE.len (by decide) hown0) (Nat.le_refl _) (Nat.le_refl _) hs0
  clear hown0 hgrow0
  go_wp2
  go_loopw [4] (fun i wr => ∃ (k : Nat) (K : List PE), k ≤ n ∧ i = .int .i64 k ∧ K.length = n ∧ OwnPatS wr w.heap.size wr.heap.size w.heap.size n K k ∧ (∀ i, i < k → (eAt K i).pl = (eAt J i).pl) ∧ Below w.heap.size w wr)
    (fun i _ => n - (intOf i).toNat)
  case atStart => exact ⟨0, List.replicate n PE.zero, Nat.zero_le _, rfl, by simp, hO0, fun i hi => absurd hi (Nat.not_lt_zero _), hb0⟩
  case round =>
    clear hO0 hb0 hs0
    obtain ⟨k, K, hk, rfl, hKn, hO, hpl, hbel⟩ := hrel
    have HKn := hide hKn
    have HPl := hide hpl
    have HO := hide hO
    clear hKn hpl hO
    by_cases hlt : k < n
    · obtain ⟨b, off, hab, hbw, hc⟩ := hr.cells (by rw [← HN.out]; omega)
      obtain ⟨c0, c1, c2, hv⟩ := hc k (by rw [← HN.out]; exact hlt)
      have HV := hide (hv.below hbel)
      clear hc hv
      subst hab
      rw [← hbel.cell (p := ⟨b, off + k * 3, none⟩) hbw] at c0
      rw [← hbel.cell (p := ⟨b, off + k * 3 + 1, none⟩) hbw] at c1
      rw [← hbel.cell (p := ⟨b, off + k * 3 + 2, none⟩) hbw] at c2
      have HK : Hid ((eAt J k).L.length ≤ 1048576) := by unfold Hid; rw [eAt_in (by rw [← HN.out]; exact hlt)]; exact HL.out _ (List.getElem_mem _)
      obtain ⟨x, hx⟩ : ∃ x, x = eAt J k := ⟨_, rfl⟩
      rw [← hx] at c0 c1 c2 HV HK
      have HX := hide hx
      clear hx
      obtain ⟨x0, va, vc, L, x2⟩ := x
      simp only at c0 c1 c2 HV HK
      go_wp2_with fail
      refine (toPat_any x0 va vc L x2 _ HV.out HK.out).mono ?_
      rintro e w2 ⟨g, rfl, hg, o, hb2⟩
      have hown2 : w2.ownsRow 0 79 3 (.slice (some ⟨w.heap.size, 0, none⟩) n n) n (rowOf PE.cs K) := by
        have := ownsRow_below' HO.out.own hb2
        rw [HKn.out] at this; exact this
      have hbel2 : Below w.heap.size w w2 := hbel.trans (hb2.mono hbel.size)
      have hlen : (rowOf PE.cs K).length = n * 3 := by rw [rowOf_length PE.len, HKn.out]
      have hmem : ∀ j, j < 3 → ∃ u, w2.cell? ⟨w.heap.size, k * 3 + j, none⟩ = some u := fun j hj => by
        rw [hown2.cellAt (k * 3 + j) (by omega), List.getElem?_eq_getElem (by omega)]
        exact ⟨_, rfl⟩
      obtain ⟨u0, m0⟩ := hmem 0 (by omega)
      obtain ⟨u1, m1⟩ := hmem 1 (by omega)
      obtain ⟨u2, m2⟩ := hmem 2 (by omega)
      rw [Nat.add_zero] at m0
      have f0 := hown2.frozenAt (k * 3)
      have f1 := hown2.frozenAt (k * 3 + 1)
      have f2 := hown2.frozenAt (k * 3 + 2)
      have s0 := hown2.stored (k * 3) (.string x0)
      have s1 := s0.1.stored (k * 3 + 1) (.slice (some ⟨g, 0, none⟩) L.length L.length)
      have s2 := s1.1.stored (k * 3 + 2) (.bool x2)
      have hset := rowOf_set_PE ⟨x0, some ⟨g, 0, none⟩, L.length, L, x2⟩ K k (by rw [HKn.out]; exact hlt)
      have hgr := (grown_tt (grown_tt s0.2 s1.2) s2.2)
      have hown3 := s2.1
      simp only at hset
      rw [hset] at hown3
      have hO3 : OwnK 79 PE.cs 3 (((w2.setCell ⟨w.heap.size, k * 3, none⟩ (.string x0)).setCell ⟨w.heap.size, k * 3 + 1, none⟩ (.slice (some ⟨g, 0, none⟩) L.length L.length)).setCell ⟨w.heap.size, k * 3 + 2, none⟩ (.bool x2)) w.heap.size n (K.set k ⟨x0, some ⟨g, 0, none⟩, L.length, L, x2⟩) := OwnK.of PE.len (by decide) hown3
      have HC := hide (HO.out.step innPat (by rw [HKn.out]; exact hlt) hb2 (x := ⟨x0, some ⟨g, 0, none⟩, L.length, L, x2⟩) ⟨g, rfl, hg, o.lt, o⟩ hgr hO3)
      have HB := hide (below_set hbel2 hgr (Nat.le_refl _))
      have hsz3 : w2.heap.size ≤ (((w2.setCell ⟨w.heap.size, k * 3, none⟩ (.string x0)).setCell ⟨w.heap.size, k * 3 + 1, none⟩ (.slice (some ⟨g, 0, none⟩) L.length L.length)).setCell ⟨w.heap.size, k * 3 + 2, none⟩ (.bool x2)).heap.size := hgr.size
      have HLen : Hid ((K.set k ⟨x0, some ⟨g, 0, none⟩, L.length, L, x2⟩).length = n) := by unfold Hid; rw [List.length_set, HKn.out]
      have HPl2 : Hid (∀ i, i < k + 1 → (eAt (K.set k ⟨x0, some ⟨g, 0, none⟩, L.length, L, x2⟩) i).pl = (eAt J i).pl) := fun i hi => by
        rw [eAt_set (by rw [HKn.out]; exact hlt)]
        by_cases e : i = k
        · rw [if_pos e, e, ← HX.out]; rfl
        · rw [if_neg e]; exact HPl.out i (by omega)
      have HW := hide (HC.out.weaken (Nat.le_refl _) hsz3 (Nat.le_refl _))
      clear hmem hlen c0 c1 c2 hbel hb2 s0 s1 s2 hset hown2 hbel2 o HV HK HPl HO hO3 hown3 hgr HC hsz3
      go_wp2
      go_roundw
      case rel => exact ⟨k + 1, _, by omega, by go_num, HLen.out, HW.out, HPl2.out, HB.out⟩
      case measure => simp [intOf]; omega
    · have hkn : k = K.length := by rw [HKn.out]; omega
      have HR : Hid (OwnPatS wr w.heap.size wr.heap.size w.heap.size n K K.length ∧ K.map PE.pl = J.map PE.pl) :=
        ⟨hkn ▸ HO.out, map_ext (by rw [HKn.out, HN.out]) (fun i hi => HPl.out i (by rw [hkn]; exact hi))⟩
      clear hkn
      go_wp2
      go_ret
      exact ⟨K, _, rfl, HR.out.1, HR.out.2, hbel⟩

/-- cells in memory, two lists, and all that was there at the head -/
theorem keepPat {w0 W w' : World} {p0 p1 p2 p3 p4 p5 : Addr} {v0 v1 v2 v3 v4 v5 : Value} {a b : Option Addr} {L : List A5} (hb : Below W.heap.size W w')
    (h : W.cell? p0 = some v0 ∧ W.cell? p1 = some v1 ∧ W.cell? p2 = some v2 ∧ W.cell? p3 = some v3 ∧ W.cell? p4 = some v4 ∧ W.cell? p5 = some v5 ∧ (RdArg W a L ∧ RdArg W b L ∧ Below w0.heap.size w0 W ∧ w0.heap.size ≤ W.heap.size)) :
    w'.cell? p0 = some v0 ∧ w'.cell? p1 = some v1 ∧ w'.cell? p2 = some v2 ∧ w'.cell? p3 = some v3 ∧ w'.cell? p4 = some v4 ∧ w'.cell? p5 = some v5 ∧ (RdArg w' a L ∧ RdArg w' b L ∧ Below w0.heap.size w0 w' ∧ w0.heap.size ≤ w'.heap.size) := by
  obtain ⟨g0, g1, g2, g3, g4, g5, q1, q2, q3, q4⟩ := h
  have k : ∀ {a : Addr} {v : Value}, W.cell? a = some v → w'.cell? a = some v := fun {a v} h => by rw [hb.cell (World.block_lt_of_cell? W _ h)]; exact h
  exact ⟨k g0, k g1, k g2, k g3, k g4, k g5, q1.below hb, q2.below hb, q3.trans (hb.mono q4), Nat.le_trans q4 hb.size⟩

set_option maxRecDepth 100000 in
set_option maxHeartbeats 3200000 in
theorem eqPatS_same (a b : Option Addr) (ca cb n : Nat) (J K : List PE) (w : World) (hr : RdPatS w a J) (hq : RdPatS w b K) (hJ : J.length = n) (hpl : J.map PE.pl = K.map PE.pl) (hm : n ≤ 1048580) (hl : ∀ x ∈ J, x.L.length ≤ 1048576) :
    Calls Try.prog 65 #[.slice a n ca, .slice b n cb] w fun e w' =>
      e = .returned (.bool true) ∧ Below w.heap.size w w' := by
  have HJ := hide hJ
  have HK : Hid (K.length = n) := by unfold Hid; rw [← hJ, map_len hpl]
  have HP := hide hpl
  have HL := hide hl
  clear hJ hpl hl
  have hnn : ((n : Int) != (n : Int)) = false := by simp
  go_enter Try.func65, Try.ntmps65
  go_wp2
  go_loopw [5] (fun i wr => ∃ (k : Nat), k ≤ n ∧ i = .int .i64 k ∧ Below w.heap.size w wr) (fun i _ => n - (intOf i).toNat)
  case atStart => exact ⟨0, Nat.zero_le _, rfl, Below.refl _ _⟩
  case round =>
    obtain ⟨k, hk, rfl, hbel⟩ := hrel
    by_cases hlt : k < n
    · obtain ⟨b1, o1, e1, hbw1, hc1⟩ := hr.cells (by rw [HJ.out]; omega)
      obtain ⟨b2, o2, e2, hbw2, hc2⟩ := hq.cells (by rw [HK.out]; omega)
      obtain ⟨c0, c1, c2, hv1⟩ := hc1 k (by rw [HJ.out]; exact hlt)
      obtain ⟨d0, d1, d2, hv2⟩ := hc2 k (by rw [HK.out]; exact hlt)
      have HP1 := PE.pl_inj (map_at HP.out (i := k) (by rw [HJ.out]; exact hlt))
      have HLk : Hid ((eAt J k).L.length ≤ 1048576) := by unfold Hid; rw [eAt_in (by rw [HJ.out]; exact hlt)]; exact HL.out _ (List.getElem_mem _)
      replace hv1 := hv1.below hbel
      replace hv2 := hv2.below hbel
      clear hc1 hc2
      subst e1 e2
      rw [← hbel.cell (p := ⟨b1, o1 + k * 3, none⟩) hbw1] at c0
      rw [← hbel.cell (p := ⟨b1, o1 + k * 3 + 1, none⟩) hbw1] at c1
      rw [← hbel.cell (p := ⟨b1, o1 + k * 3 + 2, none⟩) hbw1] at c2
      rw [← hbel.cell (p := ⟨b2, o2 + k * 3, none⟩) hbw2] at d0
      rw [← hbel.cell (p := ⟨b2, o2 + k * 3 + 1, none⟩) hbw2] at d1
      rw [← hbel.cell (p := ⟨b2, o2 + k * 3 + 2, none⟩) hbw2] at d2
      generalize eAt J k = x at c0 c1 c2 hv1 HP1 HLk
      generalize eAt K k = y at d0 d1 d2 hv2 HP1
      obtain ⟨x0, va, vc, L, x2⟩ := x
      obtain ⟨y0, vb, wc, M, y2⟩ := y
      simp only at c0 c1 c2 hv1 d0 d1 d2 hv2 HP1 HLk
      obtain ⟨rfl, rfl, rfl⟩ := HP1
      have T0 : RdArg wr va L ∧ RdArg wr vb L ∧ Below w.heap.size w wr ∧ w.heap.size ≤ wr.heap.size := ⟨hv1, hv2, hbel, hbel.size⟩
      have T1 : RdArg wr.drew va L := T0.1.heap rfl
      have T2 : RdArg wr.drew vb L := T0.2.1.heap rfl
      clear hv1 hv2 hbel
      go_wp2_with fail
      go_region_held3 (fun W => W.cell? ⟨b1, o1 + k * 3, none⟩ = some (.string x0) ∧ W.cell? ⟨b1, o1 + k * 3 + 1, none⟩ = some (.slice va L.length vc) ∧ W.cell? ⟨b1, o1 + k * 3 + 2, none⟩ = some (.bool x2) ∧ W.cell? ⟨b2, o2 + k * 3, none⟩ = some (.string x0) ∧ W.cell? ⟨b2, o2 + k * 3 + 1, none⟩ = some (.slice vb L.length wc) ∧ W.cell? ⟨b2, o2 + k * 3 + 2, none⟩ = some (.bool x2) ∧ (RdArg W va L ∧ RdArg W vb L ∧ Below w.heap.size w W ∧ w.heap.size ≤ W.heap.size)) (first | exact ⟨c0, c1, c2, d0, d1, d2, T0.1.heap rfl, T0.2.1.heap rfl, T0.2.2.1.drew, T0.2.2.2⟩ | exact keepPat (by assumption) (by assumption))
        (first | (go_at_call 104; refine (eqPat_same _ _ _ _ _ _ _ _ T1 T2 (by have := HLk.out; omega)).mono ?_; rintro e w2 ⟨rfl, hb⟩))
      all_goals
        obtain ⟨-, -, -, -, -, -, -, -, hB2, -⟩ : w2.cell? ⟨b1, o1 + k * 3, none⟩ = some (.string x0) ∧ w2.cell? ⟨b1, o1 + k * 3 + 1, none⟩ = some (.slice va L.length vc) ∧ w2.cell? ⟨b1, o1 + k * 3 + 2, none⟩ = some (.bool x2) ∧ w2.cell? ⟨b2, o2 + k * 3, none⟩ = some (.string x0) ∧ w2.cell? ⟨b2, o2 + k * 3 + 1, none⟩ = some (.slice vb L.length wc) ∧ w2.cell? ⟨b2, o2 + k * 3 + 2, none⟩ = some (.bool x2) ∧ (RdArg w2 va L ∧ RdArg w2 vb L ∧ Below w.heap.size w w2 ∧ w.heap.size ≤ w2.heap.size) := by assumption
        go_wp2
        go_roundw
        case rel => exact ⟨k + 1, by omega, by go_num, hB2⟩
        case measure => simp [intOf]; omega
    · go_wp2
      go_ret
      exact ⟨rfl, hbel⟩
end Go.Proofs.Ytfgigcdfmkfkjaa
/-
  The contracts of the laws' own helpers on Exprs: to copies, sz counts off, eq finds one the same as itself.
-/
namespace Go.Proofs.Ytfgigcdfmkfkjaa
open Go.RowKit
set_option linter.unusedVariables false

theorem Try.info206 : (Try.prog.info? 206).map (fun i => (i.zero, i.size, i.bytes)) = some (some (.agg #[.string ⟨#[]⟩, .int .i64 0, .string ⟨#[]⟩, .int .i64 0, .int .i64 0, .string ⟨#[]⟩, .int .i64 0, .string ⟨#[]⟩, .int .i64 0, .int .i64 0, .string ⟨#[]⟩]), 11, 128) := by kernel_rfl

set_option maxRecDepth 100000 in
set_option maxHeartbeats 3200000 in
theorem toExpr_any (Op : ByteArray) (LK : Int) (LS : ByteArray) (LVK : Int) (LVN : Int) (LVS : ByteArray) (RK : Int) (RS : ByteArray) (RVK : Int) (RVN : Int) (RVS : ByteArray) (w : World) :
    Calls Try.prog 152 #[.agg #[.string Op, .int .i64 LK, .string LS, .int .i64 LVK, .int .i64 LVN, .string LVS, .int .i64 RK, .string RS, .int .i64 RVK, .int .i64 RVN, .string RVS]] w fun e w' => e = .returned (.agg #[.string Op, .int .i64 LK, .string LS, .int .i64 LVK, .int .i64 LVN, .string LVS, .int .i64 RK, .string RS, .int .i64 RVK, .int .i64 RVN, .string RVS]) ∧ Below w.heap.size w w' := by
  go_enter Try.func152, Try.ntmps152
  go_wp2_with fail
  obtain ⟨hA, hR, hX, b2⟩ := boxes3 w #[.string Op, .int .i64 LK, .string LS, .int .i64 LVK, .int .i64 LVN, .string LVS, .int .i64 RK, .string RS, .int .i64 RVK, .int .i64 RVN, .string RVS] #[.string ⟨#[]⟩, .int .i64 0, .string ⟨#[]⟩, .int .i64 0, .int .i64 0, .string ⟨#[]⟩, .int .i64 0, .string ⟨#[]⟩, .int .i64 0, .int .i64 0, .string ⟨#[]⟩] #[.string Op, .int .i64 0, .string ⟨#[]⟩, .int .i64 0, .int .i64 0, .string ⟨#[]⟩, .int .i64 0, .string ⟨#[]⟩, .int .i64 0, .int .i64 0, .string ⟨#[]⟩] 219 206 206
  refine (toArg_any LK LS LVK LVN LVS _).mono ?_
  rintro e w1 ⟨rfl, hb⟩
  have HA := hide (box_below hA hb (by simp; omega))
  have HR := hide (box_below hR hb (by simp))
  have HX := hide (box_below hX hb (by simp))
  have hB : Below w.heap.size w w1 := b2.trans (hb.mono b2.size)
  clear hb hR hX hA b2
  have x0 := boxk_cell HX.out 0 _ rfl
  have xf0 := boxk_frozen HX.out 0
  have x1 := boxk_cell HX.out 1 _ rfl
  have xf1 := boxk_frozen HX.out 1
  have x2 := boxk_cell HX.out 2 _ rfl
  have xf2 := boxk_frozen HX.out 2
  have x3 := boxk_cell HX.out 3 _ rfl
  have xf3 := boxk_frozen HX.out 3
  have x4 := boxk_cell HX.out 4 _ rfl
  have xf4 := boxk_frozen HX.out 4
  have x5 := boxk_cell HX.out 5 _ rfl
  have xf5 := boxk_frozen HX.out 5
  have x6 := boxk_cell HX.out 6 _ rfl
  have xf6 := boxk_frozen HX.out 6
  have x7 := boxk_cell HX.out 7 _ rfl
  have xf7 := boxk_frozen HX.out 7
  have x8 := boxk_cell HX.out 8 _ rfl
  have xf8 := boxk_frozen HX.out 8
  have x9 := boxk_cell HX.out 9 _ rfl
  have xf9 := boxk_frozen HX.out 9
  have x10 := boxk_cell HX.out 10 _ rfl
  have xf10 := boxk_frozen HX.out 10
  have a6 := boxk_cell HA.out 6 _ rfl
  have a7 := boxk_cell HA.out 7 _ rfl
  have a8 := boxk_cell HA.out 8 _ rfl
  have a9 := boxk_cell HA.out 9 _ rfl
  have a10 := boxk_cell HA.out 10 _ rfl
  have HL := hide (box11_setL HX.out (.int .i64 LK) (.string LS) (.int .i64 LVK) (.int .i64 LVN) (.string LVS))
  have HRs := hide (box_gr HR.out HL.out.2 (by omega))
  have HBs := hide (below_set hB HL.out.2 (by omega))
  have HXs := hide HL.out.1
  go_wp2_with fail
  refine (toArg_any RK RS RVK RVN RVS _).mono ?_
  clear x0 xf0 x1 xf1 x2 xf2 x3 xf3 x4 xf4 x5 xf5 x6 xf6 x7 xf7 x8 xf8 x9 xf9 x10 xf10 a6 a7 a8 a9 a10 HX HR HA hB HL
  generalize (((((w1.setCell ⟨w.heap.size + 1 + 1, 1, none⟩ (.int .i64 LK)).setCell ⟨w.heap.size + 1 + 1, 2, none⟩ (.string LS)).setCell ⟨w.heap.size + 1 + 1, 3, none⟩ (.int .i64 LVK)).setCell ⟨w.heap.size + 1 + 1, 4, none⟩ (.int .i64 LVN)).setCell ⟨w.heap.size + 1 + 1, 5, none⟩ (.string LVS)) = w2 at HRs HBs HXs
  rintro e w3 ⟨rfl, hb⟩
  have HR3 := hide (box_step HRs.out hb)
  have HX3 := hide (box_step HXs.out hb)
  have hB3 : Below w.heap.size w w3 := HBs.out.trans (hb.mono HBs.out.size)
  clear hb HRs HBs HXs
  have x0 := boxk_cell HX3.out 0 _ rfl
  have xf0 := boxk_frozen HX3.out 0
  have x1 := boxk_cell HX3.out 1 _ rfl
  have xf1 := boxk_frozen HX3.out 1
  have x2 := boxk_cell HX3.out 2 _ rfl
  have xf2 := boxk_frozen HX3.out 2
  have x3 := boxk_cell HX3.out 3 _ rfl
  have xf3 := boxk_frozen HX3.out 3
  have x4 := boxk_cell HX3.out 4 _ rfl
  have xf4 := boxk_frozen HX3.out 4
  have x5 := boxk_cell HX3.out 5 _ rfl
  have xf5 := boxk_frozen HX3.out 5
  have x6 := boxk_cell HX3.out 6 _ rfl
  have xf6 := boxk_frozen HX3.out 6
  have x7 := boxk_cell HX3.out 7 _ rfl
  have xf7 := boxk_frozen HX3.out 7
  have x8 := boxk_cell HX3.out 8 _ rfl
  have xf8 := boxk_frozen HX3.out 8
  have x9 := boxk_cell HX3.out 9 _ rfl
  have xf9 := boxk_frozen HX3.out 9
  have x10 := boxk_cell HX3.out 10 _ rfl
  have xf10 := boxk_frozen HX3.out 10
  have HX6 := hide (box11_setR HX3.out (.int .i64 RK) (.string RS) (.int .i64 RVK) (.int .i64 RVN) (.string RVS))
  have HR4 := hide (box_gr HR3.out HX6.out.2 (by omega))
  have HB4 := hide (below_set hB3 HX6.out.2 (by omega))
  have HX7 := hide HX6.out.1
  go_upto_region 5 with fail
  clear x0 xf0 x1 xf1 x2 xf2 x3 xf3 x4 xf4 x5 xf5 x6 xf6 x7 xf7 x8 xf8 x9 xf9 x10 xf10 HX6 HX3 HR3 hB3
  generalize (((((w3.setCell ⟨w.heap.size + 1 + 1, 6, none⟩ (.int .i64 RK)).setCell ⟨w.heap.size + 1 + 1, 7, none⟩ (.string RS)).setCell ⟨w.heap.size + 1 + 1, 8, none⟩ (.int .i64 RVK)).setCell ⟨w.heap.size + 1 + 1, 9, none⟩ (.int .i64 RVN)).setCell ⟨w.heap.size + 1 + 1, 10, none⟩ (.string RVS)) = w5 at HR4 HB4 HX7
  have x0 := boxk_cell HX7.out 0 _ rfl
  have r0 := boxk_cell HR4.out 0 _ rfl
  have rf0 := boxk_frozen HR4.out 0
  have x1 := boxk_cell HX7.out 1 _ rfl
  have r1 := boxk_cell HR4.out 1 _ rfl
  have rf1 := boxk_frozen HR4.out 1
  have x2 := boxk_cell HX7.out 2 _ rfl
  have r2 := boxk_cell HR4.out 2 _ rfl
  have rf2 := boxk_frozen HR4.out 2
  have x3 := boxk_cell HX7.out 3 _ rfl
  have r3 := boxk_cell HR4.out 3 _ rfl
  have rf3 := boxk_frozen HR4.out 3
  have x4 := boxk_cell HX7.out 4 _ rfl
  have r4 := boxk_cell HR4.out 4 _ rfl
  have rf4 := boxk_frozen HR4.out 4
  have x5 := boxk_cell HX7.out 5 _ rfl
  have r5 := boxk_cell HR4.out 5 _ rfl
  have rf5 := boxk_frozen HR4.out 5
  have x6 := boxk_cell HX7.out 6 _ rfl
  have r6 := boxk_cell HR4.out 6 _ rfl
  have rf6 := boxk_frozen HR4.out 6
  have x7 := boxk_cell HX7.out 7 _ rfl
  have r7 := boxk_cell HR4.out 7 _ rfl
  have rf7 := boxk_frozen HR4.out 7
  have x8 := boxk_cell HX7.out 8 _ rfl
  have r8 := boxk_cell HR4.out 8 _ rfl
  have rf8 := boxk_frozen HR4.out 8
  have x9 := boxk_cell HX7.out 9 _ rfl
  have r9 := boxk_cell HR4.out 9 _ rfl
  have rf9 := boxk_frozen HR4.out 9
  have x10 := boxk_cell HX7.out 10 _ rfl
  have r10 := boxk_cell HR4.out 10 _ rfl
  have rf10 := boxk_frozen HR4.out 10
  go_wp2
  refine box11_post HR4.out (fun w4 h4 gr => ?_)
  clear x0 r0 rf0 x1 r1 rf1 x2 r2 rf2 x3 r3 rf3 x4 r4 rf4 x5 r5 rf5 x6 r6 rf6 x7 r7 rf7 x8 r8 rf8 x9 r9 rf9 x10 r10 rf10
  have c0 := boxk_cell h4 0 _ rfl
  have c1 := boxk_cell h4 1 _ rfl
  have c2 := boxk_cell h4 2 _ rfl
  have c3 := boxk_cell h4 3 _ rfl
  have c4 := boxk_cell h4 4 _ rfl
  have c5 := boxk_cell h4 5 _ rfl
  have c6 := boxk_cell h4 6 _ rfl
  have c7 := boxk_cell h4 7 _ rfl
  have c8 := boxk_cell h4 8 _ rfl
  have c9 := boxk_cell h4 9 _ rfl
  have c10 := boxk_cell h4 10 _ rfl
  exact bodyPost_ret (v := .agg #[.string Op, .int .i64 LK, .string LS, .int .i64 LVK, .int .i64 LVN, .string LVS, .int .i64 RK, .string RS, .int .i64 RVK, .int .i64 RVN, .string RVS]) (by simp [results, Try.results152, go_sem, c0, c1, c2, c3, c4, c5, c6, c7, c8, c9, c10]) rfl ⟨rfl, below_set HB4.out gr (by omega)⟩

set_option maxRecDepth 100000 in
set_option maxHeartbeats 1600000 in
theorem szExpr_any (Op : ByteArray) (LK : Int) (LS : ByteArray) (LVK : Int) (LVN : Int) (LVS : ByteArray) (RK : Int) (RS : ByteArray) (RVK : Int) (RVN : Int) (RVS : ByteArray) (left : Int) (w : World) (so : Op.size ≤ maxLen) (s0 : LS.size ≤ maxLen) (s1 : LVS.size ≤ maxLen) (s2 : RS.size ≤ maxLen) (s3 : RVS.size ≤ maxLen) (h0 : 0 ≤ left) (h1 : left ≤ 1048576) :
    Calls Try.prog 150 #[.agg #[.string Op, .int .i64 LK, .string LS, .int .i64 LVK, .int .i64 LVN, .string LVS, .int .i64 RK, .string RS, .int .i64 RVK, .int .i64 RVN, .string RVS], .int .i64 left] w fun e w' =>
      (∃ r, e = .returned (.int .i64 r) ∧ (r = -1 ∨ (0 ≤ r ∧ r + (Op.size : Int) + (LS.size : Int) + (LVS.size : Int) + (RS.size : Int) + (RVS.size : Int) ≤ left))) ∧ Below w.heap.size w w' := by
  unfold maxLen at so
  by_cases hz : left - (Op.size : Int) < 0
  · go_enter Try.func150, Try.ntmps150
    go_wp2
    go_ret
    exact ⟨⟨-1, rfl, .inl rfl⟩, by go_grown⟩
  · go_enter Try.func150, Try.ntmps150
    go_wp2_with fail
    have b0 := below_al w (.cells #[.string Op, .int .i64 LK, .string LS, .int .i64 LVK, .int .i64 LVN, .string LVS, .int .i64 RK, .string RS, .int .i64 RVK, .int .i64 RVN, .string RVS] 219)
    have hA := boxk_new w #[.string Op, .int .i64 LK, .string LS, .int .i64 LVK, .int .i64 LVN, .string LVS, .int .i64 RK, .string RS, .int .i64 RVK, .int .i64 RVN, .string RVS] 219
    refine (szArg_any LK LS LVK LVN LVS (left - Op.size) _ s0 s1 (by omega) (by omega)).mono ?_
    rintro e w1 ⟨⟨r, rfl, hr⟩, hb1⟩
    have HA1 := hide (box_below hA hb1 (by simp))
    have hB1 : Below w.heap.size w w1 := b0.trans (hb1.mono b0.size)
    clear hb1 b0 hA
    rcases hr with rfl | ⟨h2, h3⟩
    · go_wp2
      go_ret
      exact ⟨⟨-1, rfl, .inl rfl⟩, hB1⟩
    · have H3 := hide h3
      have h4 : r ≤ 1048576 := by omega
      clear h3
      have a6 := boxk_cell HA1.out 6 _ rfl
      have a7 := boxk_cell HA1.out 7 _ rfl
      have a8 := boxk_cell HA1.out 8 _ rfl
      have a9 := boxk_cell HA1.out 9 _ rfl
      have a10 := boxk_cell HA1.out 10 _ rfl
      go_wp2_with fail
      refine (szArg_any RK RS RVK RVN RVS r _ s2 s3 h2 h4).mono ?_
      rintro e w2 ⟨⟨r2, rfl, hr2⟩, hb2⟩
      have hB2 : Below w.heap.size w w2 := hB1.trans (hb2.mono hB1.size)
      clear hb2 hB1 HA1 a6 a7 a8 a9 a10
      rcases hr2 with rfl | ⟨h5, h6⟩
      · go_wp2
        go_ret
        exact ⟨⟨-1, rfl, .inl rfl⟩, hB2⟩
      · have H6 := hide h6
        clear h6
        go_wp2
        go_ret
        have := H3.out
        have := H6.out
        exact ⟨⟨_, rfl, .inr ⟨h5, by omega⟩⟩, hB2⟩

set_option maxRecDepth 100000 in
set_option maxHeartbeats 1600000 in
theorem eqExpr_same (Op : ByteArray) (LK : Int) (LS : ByteArray) (LVK : Int) (LVN : Int) (LVS : ByteArray) (RK : Int) (RS : ByteArray) (RVK : Int) (RVN : Int) (RVS : ByteArray) (w : World) :
    Calls Try.prog 155 #[.agg #[.string Op, .int .i64 LK, .string LS, .int .i64 LVK, .int .i64 LVN, .string LVS, .int .i64 RK, .string RS, .int .i64 RVK, .int .i64 RVN, .string RVS], .agg #[.string Op, .int .i64 LK, .string LS, .int .i64 LVK, .int .i64 LVN, .string LVS, .int .i64 RK, .string RS, .int .i64 RVK, .int .i64 RVN, .string RVS]] w fun e w' => e = .returned (.bool true) ∧ Below w.heap.size w w' := by
  have kO : (Op.toList == Op.toList) = true := by simp
  go_enter Try.func155, Try.ntmps155
  go_wp2_with fail
  obtain ⟨hA, hD, b1⟩ := boxes2 w #[.string Op, .int .i64 LK, .string LS, .int .i64 LVK, .int .i64 LVN, .string LVS, .int .i64 RK, .string RS, .int .i64 RVK, .int .i64 RVN, .string RVS] #[.string Op, .int .i64 LK, .string LS, .int .i64 LVK, .int .i64 LVN, .string LVS, .int .i64 RK, .string RS, .int .i64 RVK, .int .i64 RVN, .string RVS] 206 206
  refine (eqArg_same LK LS LVK LVN LVS _).mono ?_
  rintro e w1 ⟨rfl, hb⟩
  have HA := hide (box_below hA hb (by simp; omega))
  have HD := hide (box_below hD hb (by simp))
  have hB : Below w.heap.size w w1 := b1.trans (hb.mono b1.size)
  clear hb hA hD b1
  have a6 := boxk_cell HA.out 6 _ rfl
  have d6 := boxk_cell HD.out 6 _ rfl
  have a7 := boxk_cell HA.out 7 _ rfl
  have d7 := boxk_cell HD.out 7 _ rfl
  have a8 := boxk_cell HA.out 8 _ rfl
  have d8 := boxk_cell HD.out 8 _ rfl
  have a9 := boxk_cell HA.out 9 _ rfl
  have d9 := boxk_cell HD.out 9 _ rfl
  have a10 := boxk_cell HA.out 10 _ rfl
  have d10 := boxk_cell HD.out 10 _ rfl
  go_wp2_with fail
  refine (eqArg_same RK RS RVK RVN RVS _).mono ?_
  rintro e w2 ⟨rfl, hb⟩
  have hB2 : Below w.heap.size w w2 := hB.trans (hb.mono hB.size)
  go_wp2
  go_ret
  exact ⟨rfl, hB2⟩
end Go.Proofs.Ytfgigcdfmkfkjaa
/-
  The contracts of the laws' own helpers on rows of Exprs: to copies, sz counts off, eq finds a row the same as itself.
-/
namespace Go.Proofs.Ytfgigcdfmkfkjaa
open Go.RowKit
set_option linter.unusedVariables false

set_option maxRecDepth 100000 in
set_option maxHeartbeats 3200000 in
theorem toExprS_at (a : Option Addr) (cap : Nat) (L : List X11) (w : World) (hr : RdExpr w a L) (hn : L.length ≤ 1048576) :
    Calls Try.prog 128 #[.slice a L.length cap] w fun e w' =>
      e = .returned (.slice (some ⟨w.heap.size, 0, none⟩) L.length L.length) ∧ w'.ownsRow w.heap.size 206 11 (.slice (some ⟨w.heap.size, 0, none⟩) L.length L.length) L.length (rowOf X11.cs L) ∧ Below w.heap.size w w' := by
  obtain ⟨i0, hi, hz0, hz1, hz2⟩ := info_parts Try.info206
  obtain ⟨n, hN⟩ : ∃ n, n = L.length := ⟨_, rfl⟩
  rw [← hN] at hn ⊢
  have HN := hide hN
  clear hN
  have hmade := rowOf_made (f := X11.cs) (x := X11.zero) (cs := #[.string ⟨#[]⟩, .int .i64 0, .string ⟨#[]⟩, .int .i64 0, .int .i64 0, .string ⟨#[]⟩, .int .i64 0, .string ⟨#[]⟩, .int .i64 0, .int .i64 0, .string ⟨#[]⟩]) rfl (by decide) n
  go_enter Try.func128, Try.ntmps128
  go_wp2_with (at_make; refine wpList_make_full _ rfl _ _ 164 rfl w.heap.size 206 i0 (.agg #[.string ⟨#[]⟩, .int .i64 0, .string ⟨#[]⟩, .int .i64 0, .int .i64 0, .string ⟨#[]⟩, .int .i64 0, .string ⟨#[]⟩, .int .i64 0, .int .i64 0, .string ⟨#[]⟩]) 11 Try.underlying164 hi hz0 hz1 _ _ _ _ n rfl rfl (by omega) (by omega) ?b2 ?b3 (Nat.le_refl _) ?_)
  case b2 => rw [hz2]; omega
  case b3 => unfold maxLen; omega
  intro w0 hown0 hgrow0
  have hown0' : w0.ownsRow w.heap.size 206 11 (.slice (some ⟨w.heap.size, 0, none⟩) n n) n (rowOf X11.cs (List.replicate n X11.zero)) := by rw [← hmade]; exact hown0
  clear hown0 hmade
  go_wp2
  go_loopw [4] (fun i wr => ∃ k : Nat, k ≤ n ∧ i = .int .i64 k ∧ wr.ownsRow w.heap.size 206 11 (.slice (some ⟨w.heap.size, 0, none⟩) n n) n (rowOf X11.cs (partK L X11.zero k)) ∧ Below w.heap.size w wr)
    (fun i _ => n - (intOf i).toNat)
  case atStart =>
    refine ⟨0, Nat.zero_le _, rfl, ?_, (Below.refl _ _).grown hgrow0 (Nat.le_refl _) (fun k h => by cases h)⟩
    rw [partK_zero, ← HN.out]
    exact hown0'
  case round =>
    obtain ⟨k, hk, rfl, hown, hbel⟩ := hrel
    by_cases hlt : k < n
    · obtain ⟨b, off, hab, hbw, hc⟩ := RdExpr.cells hr (by rw [← HN.out]; omega)
      obtain ⟨c0, c1, c2, c3, c4, c5, c6, c7, c8, c9, c10⟩ := hc k (by rw [← HN.out]; exact hlt)
      clear hc
      subst hab
      rw [← hbel.cell (p := ⟨b, off + k * 11, none⟩) hbw] at c0
      rw [← hbel.cell (p := ⟨b, off + k * 11 + 1, none⟩) hbw] at c1
      rw [← hbel.cell (p := ⟨b, off + k * 11 + 2, none⟩) hbw] at c2
      rw [← hbel.cell (p := ⟨b, off + k * 11 + 3, none⟩) hbw] at c3
      rw [← hbel.cell (p := ⟨b, off + k * 11 + 4, none⟩) hbw] at c4
      rw [← hbel.cell (p := ⟨b, off + k * 11 + 5, none⟩) hbw] at c5
      rw [← hbel.cell (p := ⟨b, off + k * 11 + 6, none⟩) hbw] at c6
      rw [← hbel.cell (p := ⟨b, off + k * 11 + 7, none⟩) hbw] at c7
      rw [← hbel.cell (p := ⟨b, off + k * 11 + 8, none⟩) hbw] at c8
      rw [← hbel.cell (p := ⟨b, off + k * 11 + 9, none⟩) hbw] at c9
      rw [← hbel.cell (p := ⟨b, off + k * 11 + 10, none⟩) hbw] at c10
      go_wp2_with fail
      refine (toExpr_any _ _ _ _ _ _ _ _ _ _ _ _).mono ?_
      rintro e w2 ⟨rfl, hb2⟩
      have hown2 : w2.ownsRow w.heap.size 206 11 (.slice (some ⟨w.heap.size, 0, none⟩) n n) n (rowOf X11.cs (partK L X11.zero k)) := ownsRow_below' hown hb2
      have hbel2 : Below w.heap.size w w2 := hbel.trans (hb2.mono hbel.size)
      have hlen : (rowOf X11.cs (partK L X11.zero k)).length = n * 11 := by rw [rowOf_length X11.len, partK_length (by rw [← HN.out]; omega), ← HN.out]
      have hmem : ∀ j, j < 11 → ∃ u, w2.cell? ⟨w.heap.size, k * 11 + j, none⟩ = some u := fun j hj => by
        rw [hown2.cellAt (k * 11 + j) (by omega), List.getElem?_eq_getElem (by omega)]
        exact ⟨_, rfl⟩
      obtain ⟨u0, m0⟩ := hmem 0 (by omega)
      obtain ⟨u1, m1⟩ := hmem 1 (by omega)
      obtain ⟨u2, m2⟩ := hmem 2 (by omega)
      obtain ⟨u3, m3⟩ := hmem 3 (by omega)
      obtain ⟨u4, m4⟩ := hmem 4 (by omega)
      obtain ⟨u5, m5⟩ := hmem 5 (by omega)
      obtain ⟨u6, m6⟩ := hmem 6 (by omega)
      obtain ⟨u7, m7⟩ := hmem 7 (by omega)
      obtain ⟨u8, m8⟩ := hmem 8 (by omega)
      obtain ⟨u9, m9⟩ := hmem 9 (by omega)
      obtain ⟨u10, m10⟩ := hmem 10 (by omega)
      rw [Nat.add_zero] at m0
      have f0 := hown2.frozenAt (k * 11)
      have f1 := hown2.frozenAt (k * 11 + 1)
      have f2 := hown2.frozenAt (k * 11 + 2)
      have f3 := hown2.frozenAt (k * 11 + 3)
      have f4 := hown2.frozenAt (k * 11 + 4)
      have f5 := hown2.frozenAt (k * 11 + 5)
      have f6 := hown2.frozenAt (k * 11 + 6)
      have f7 := hown2.frozenAt (k * 11 + 7)
      have f8 := hown2.frozenAt (k * 11 + 8)
      have f9 := hown2.frozenAt (k * 11 + 9)
      have f10 := hown2.frozenAt (k * 11 + 10)
      have HO := hide (((((((((((hown2.stored (k * 11) (.string (eAt L k).Op)).1.stored (k * 11 + 1) (.int .i64 (eAt L k).L.K)).1.stored (k * 11 + 2) (.string (eAt L k).L.S)).1.stored (k * 11 + 3) (.int .i64 (eAt L k).L.V.K)).1.stored (k * 11 + 4) (.int .i64 (eAt L k).L.V.N)).1.stored (k * 11 + 5) (.string (eAt L k).L.V.S)).1.stored (k * 11 + 6) (.int .i64 (eAt L k).R.K)).1.stored (k * 11 + 7) (.string (eAt L k).R.S)).1.stored (k * 11 + 8) (.int .i64 (eAt L k).R.V.K)).1.stored (k * 11 + 9) (.int .i64 (eAt L k).R.V.N)).1.stored (k * 11 + 10) (.string (eAt L k).R.V.S)).1
      have HB : Hid (Below w.heap.size w (((((((((((w2.setCell ⟨w.heap.size, k * 11, none⟩ (.string (eAt L k).Op)).setCell ⟨w.heap.size, k * 11 + 1, none⟩ (.int .i64 (eAt L k).L.K)).setCell ⟨w.heap.size, k * 11 + 2, none⟩ (.string (eAt L k).L.S)).setCell ⟨w.heap.size, k * 11 + 3, none⟩ (.int .i64 (eAt L k).L.V.K)).setCell ⟨w.heap.size, k * 11 + 4, none⟩ (.int .i64 (eAt L k).L.V.N)).setCell ⟨w.heap.size, k * 11 + 5, none⟩ (.string (eAt L k).L.V.S)).setCell ⟨w.heap.size, k * 11 + 6, none⟩ (.int .i64 (eAt L k).R.K)).setCell ⟨w.heap.size, k * 11 + 7, none⟩ (.string (eAt L k).R.S)).setCell ⟨w.heap.size, k * 11 + 8, none⟩ (.int .i64 (eAt L k).R.V.K)).setCell ⟨w.heap.size, k * 11 + 9, none⟩ (.int .i64 (eAt L k).R.V.N)).setCell ⟨w.heap.size, k * 11 + 10, none⟩ (.string (eAt L k).R.V.S))) := (((((((((((hbel2.setCell (Nat.le_refl _) _).setCell (Nat.le_refl _) _).setCell (Nat.le_refl _) _).setCell (Nat.le_refl _) _).setCell (Nat.le_refl _) _).setCell (Nat.le_refl _) _).setCell (Nat.le_refl _) _).setCell (Nat.le_refl _) _).setCell (Nat.le_refl _) _).setCell (Nat.le_refl _) _).setCell (Nat.le_refl _) _)
      rw [rowOf_set_X11 (eAt L k) _ k (by rw [partK_length (by rw [← HN.out]; omega), ← HN.out]; exact hlt), partK_set (by rw [← HN.out]; exact hlt)] at HO
      clear hmem hlen c0 c1 c2 c3 c4 c5 c6 c7 c8 c9 c10 hown hbel hb2 hown2 hbel2
      go_wp2
      go_roundw
      case rel => exact ⟨k + 1, by omega, by go_num, HO.out, HB.out⟩
      case measure => simp [intOf]; omega
    · have HE : Hid (wr.ownsRow w.heap.size 206 11 (.slice (some ⟨w.heap.size, 0, none⟩) n n) n (rowOf X11.cs L)) := by
        have hkn : k = L.length := by rw [← HN.out]; omega
        rw [hkn, partK_end] at hown
        exact hown
      clear hown
      go_wp2
      go_ret
      exact ⟨rfl, HE.out, hbel⟩

set_option maxRecDepth 100000 in
set_option maxHeartbeats 1600000 in
theorem szExprS_any (a : Option Addr) (cap : Nat) (L : List X11) (left : Int) (w : World) (hr : RdExpr w a L) (hs : ∀ x ∈ L, x.fits) (hm : L.length ≤ maxLen) (h0 : 0 ≤ left) (h1 : left ≤ 1048576) :
    Calls Try.prog 124 #[.slice a L.length cap, .int .i64 left] w fun e w' =>
      (∃ r, e = .returned (.int .i64 r) ∧ (r = -1 ∨ (0 ≤ r ∧ r + (L.length : Int) ≤ left ∧ ∀ x ∈ L, x.small))) ∧ Below w.heap.size w w' := by
  unfold maxLen at hm
  obtain ⟨n, hN⟩ : ∃ n, n = L.length := ⟨_, rfl⟩
  rw [← hN] at hm ⊢
  have HN := hide hN
  have HS := hide hs
  clear hN hs
  by_cases h2 : left - (n : Int) < 0
  · go_enter Try.func124, Try.ntmps124
    go_wp2
    go_ret
    exact ⟨⟨-1, rfl, .inl rfl⟩, Below.refl _ _⟩
  · go_enter Try.func124, Try.ntmps124
    go_wp2
    go_loopw [1, 5] (fun l i wr => ∃ (k : Nat) (lf : Int), k ≤ n ∧ i = .int .i64 k ∧ l = .int .i64 lf ∧ 0 ≤ lf ∧ lf ≤ left - n ∧ (∀ j, j < k → (eAt L j).small) ∧ Below w.heap.size w wr) (fun _ i _ => n - (intOf i).toNat)
    case atStart => exact ⟨0, left - n, Nat.zero_le _, rfl, rfl, by omega, Int.le_refl _, fun j hj => absurd hj (Nat.not_lt_zero _), Below.refl _ _⟩
    case round =>
      obtain ⟨k, lf, hk, rfl, rfl, hlf, hle, hsm, hbel⟩ := hrel
      have HSm := hide hsm
      clear hsm
      by_cases hlt : k < n
      · obtain ⟨b, off, hab, hbw, hc⟩ := RdExpr.cells hr (by rw [← HN.out]; omega)
        obtain ⟨c0, c1, c2, c3, c4, c5, c6, c7, c8, c9, c10⟩ := hc k (by rw [← HN.out]; exact hlt)
        clear hc
        subst hab
        rw [← hbel.cell (p := ⟨b, off + k * 11, none⟩) hbw] at c0
        rw [← hbel.cell (p := ⟨b, off + k * 11 + 1, none⟩) hbw] at c1
        rw [← hbel.cell (p := ⟨b, off + k * 11 + 2, none⟩) hbw] at c2
        rw [← hbel.cell (p := ⟨b, off + k * 11 + 3, none⟩) hbw] at c3
        rw [← hbel.cell (p := ⟨b, off + k * 11 + 4, none⟩) hbw] at c4
        rw [← hbel.cell (p := ⟨b, off + k * 11 + 5, none⟩) hbw] at c5
        rw [← hbel.cell (p := ⟨b, off + k * 11 + 6, none⟩) hbw] at c6
        rw [← hbel.cell (p := ⟨b, off + k * 11 + 7, none⟩) hbw] at c7
        rw [← hbel.cell (p := ⟨b, off + k * 11 + 8, none⟩) hbw] at c8
        rw [← hbel.cell (p := ⟨b, off + k * 11 + 9, none⟩) hbw] at c9
        rw [← hbel.cell (p := ⟨b, off + k * 11 + 10, none⟩) hbw] at c10
        have hS : (eAt L k).fits := by rw [eAt_in (by rw [← HN.out]; exact hlt)]; exact HS.out _ (List.getElem_mem _)
        obtain ⟨hSo, ⟨hS0, hS1⟩, hS2, hS3⟩ := hS
        go_wp2_with fail
        refine (szExpr_any _ _ _ _ _ _ _ _ _ _ _ lf _ hSo hS0 hS1 hS2 hS3 hlf (by omega)).mono ?_
        rintro e w2 ⟨⟨r, rfl, hr2⟩, hb2⟩
        have hbel2 : Below w.heap.size w w2 := hbel.trans (hb2.mono hbel.size)
        clear hb2 c0 c1 c2 c3 c4 c5 c6 c7 c8 c9 c10 hbel
        rcases hr2 with rfl | ⟨h3, h4⟩
        · go_wp2
          go_ret
          exact ⟨⟨-1, rfl, .inl rfl⟩, hbel2⟩
        · have HSk : Hid ((eAt L k).small) := ⟨by omega, ⟨by omega, by omega⟩, by omega, by omega⟩
          have h5 : r ≤ lf := by omega
          clear h4
          go_wp2
          go_roundw
          case rel => exact ⟨k + 1, r, by omega, by go_num, rfl, h3, by omega, fun j hj => by
              by_cases hjk : j = k
              · rw [hjk]; exact HSk.out
              · exact HSm.out j (by omega), hbel2⟩
          case measure => simp [intOf]; omega
      · have HAll : Hid (∀ x ∈ L, x.small) := fun x hx => by
          obtain ⟨j, hj, rfl⟩ := List.getElem_of_mem hx
          rw [← eAt_in hj]
          exact HSm.out j (by rw [← HN.out] at hj; omega)
        go_wp2
        go_ret
        exact ⟨⟨lf, rfl, .inr ⟨hlf, by omega, HAll.out⟩⟩, hbel⟩

theorem toExprS_ex (a : Option Addr) (cap : Nat) (L : List X11) (w : World) (hr : RdExpr w a L) (hn : L.length ≤ 1048576) :
    Calls Try.prog 128 #[.slice a L.length cap] w fun e w' =>
      ∃ g, e = .returned (.slice (some ⟨g, 0, none⟩) L.length L.length) ∧ w.heap.size ≤ g ∧ OwnExpr w' g L.length L ∧ Below w.heap.size w w' :=
  (toExprS_at a cap L w hr hn).mono fun e w' h => ⟨w.heap.size, h.1, Nat.le_refl _, OwnK.of X11.len (by decide) h.2.1, h.2.2⟩

theorem keepExpr {w0 W w' : World} {B : Nat} {p0 p1 p2 p3 p4 p5 p6 p7 p8 p9 p10 p11 p12 p13 p14 p15 p16 p17 p18 p19 p20 p21 : Addr} {v0 v1 v2 v3 v4 v5 v6 v7 v8 v9 v10 v11 v12 v13 v14 v15 v16 v17 v18 v19 v20 v21 : Value} (hb : Below W.heap.size W w')
    (h : W.cell? p0 = some v0 ∧ W.cell? p1 = some v1 ∧ W.cell? p2 = some v2 ∧ W.cell? p3 = some v3 ∧ W.cell? p4 = some v4 ∧ W.cell? p5 = some v5 ∧ W.cell? p6 = some v6 ∧ W.cell? p7 = some v7 ∧ W.cell? p8 = some v8 ∧ W.cell? p9 = some v9 ∧ W.cell? p10 = some v10 ∧ W.cell? p11 = some v11 ∧ W.cell? p12 = some v12 ∧ W.cell? p13 = some v13 ∧ W.cell? p14 = some v14 ∧ W.cell? p15 = some v15 ∧ W.cell? p16 = some v16 ∧ W.cell? p17 = some v17 ∧ W.cell? p18 = some v18 ∧ W.cell? p19 = some v19 ∧ W.cell? p20 = some v20 ∧ W.cell? p21 = some v21 ∧ Below B w0 W ∧ B ≤ W.heap.size) :
    w'.cell? p0 = some v0 ∧ w'.cell? p1 = some v1 ∧ w'.cell? p2 = some v2 ∧ w'.cell? p3 = some v3 ∧ w'.cell? p4 = some v4 ∧ w'.cell? p5 = some v5 ∧ w'.cell? p6 = some v6 ∧ w'.cell? p7 = some v7 ∧ w'.cell? p8 = some v8 ∧ w'.cell? p9 = some v9 ∧ w'.cell? p10 = some v10 ∧ w'.cell? p11 = some v11 ∧ w'.cell? p12 = some v12 ∧ w'.cell? p13 = some v13 ∧ w'.cell? p14 = some v14 ∧ w'.cell? p15 = some v15 ∧ w'.cell? p16 = some v16 ∧ w'.cell? p17 = some v17 ∧ w'.cell? p18 = some v18 ∧ w'.cell? p19 = some v19 ∧ w'.cell? p20 = some v20 ∧ w'.cell? p21 = some v21 ∧ Below B w0 w' ∧ B ≤ w'.heap.size := by
  obtain ⟨q0, q1, q2, q3, q4, q5, q6, q7, q8, q9, q10, q11, q12, q13, q14, q15, q16, q17, q18, q19, q20, q21, h6, h7⟩ := h
  have k : ∀ {a : Addr} {v : Value}, W.cell? a = some v → w'.cell? a = some v := fun {a v} h => by rw [hb.cell (World.block_lt_of_cell? W _ h)]; exact h
  exact ⟨k q0, k q1, k q2, k q3, k q4, k q5, k q6, k q7, k q8, k q9, k q10, k q11, k q12, k q13, k q14, k q15, k q16, k q17, k q18, k q19, k q20, k q21, h6.trans (hb.mono h7), Nat.le_trans h7 hb.size⟩
set_option maxRecDepth 100000 in
set_option maxHeartbeats 3200000 in
theorem eqExprS_same (a b : Option Addr) (ca cb : Nat) (L : List X11) (w : World) (hr : RdExpr w a L) (hq : RdExpr w b L) (hm : L.length ≤ 2097152) :
    Calls Try.prog 137 #[.slice a L.length ca, .slice b L.length cb] w fun e w' =>
      e = .returned (.bool true) ∧ Below w.heap.size w w' := by
  obtain ⟨n, hN⟩ : ∃ n, n = L.length := ⟨_, rfl⟩
  rw [← hN] at hm ⊢
  have HN := hide hN
  clear hN
  have hnn : ((n : Int) != (n : Int)) = false := by simp
  go_enter Try.func137, Try.ntmps137
  go_wp2
  go_loopw [5] (fun i wr => ∃ (k : Nat), k ≤ n ∧ i = .int .i64 k ∧ Below w.heap.size w wr) (fun i _ => n - (intOf i).toNat)
  case atStart => exact ⟨0, Nat.zero_le _, rfl, Below.refl _ _⟩
  case round =>
    obtain ⟨k, hk, rfl, hbel⟩ := hrel
    by_cases hlt : k < n
    · obtain ⟨b1, o1, e1, hbw1, hc1⟩ := RdExpr.cells hr (by rw [← HN.out]; omega)
      obtain ⟨b2, o2, e2, hbw2, hc2⟩ := RdExpr.cells hq (by rw [← HN.out]; omega)
      obtain ⟨c0, c1, c2, c3, c4, c5, c6, c7, c8, c9, c10⟩ := hc1 k (by rw [← HN.out]; exact hlt)
      obtain ⟨d0, d1, d2, d3, d4, d5, d6, d7, d8, d9, d10⟩ := hc2 k (by rw [← HN.out]; exact hlt)
      clear hc1 hc2
      subst e1 e2
      rw [← hbel.cell (p := ⟨b1, o1 + k * 11, none⟩) hbw1] at c0
      rw [← hbel.cell (p := ⟨b2, o2 + k * 11, none⟩) hbw2] at d0
      rw [← hbel.cell (p := ⟨b1, o1 + k * 11 + 1, none⟩) hbw1] at c1
      rw [← hbel.cell (p := ⟨b2, o2 + k * 11 + 1, none⟩) hbw2] at d1
      rw [← hbel.cell (p := ⟨b1, o1 + k * 11 + 2, none⟩) hbw1] at c2
      rw [← hbel.cell (p := ⟨b2, o2 + k * 11 + 2, none⟩) hbw2] at d2
      rw [← hbel.cell (p := ⟨b1, o1 + k * 11 + 3, none⟩) hbw1] at c3
      rw [← hbel.cell (p := ⟨b2, o2 + k * 11 + 3, none⟩) hbw2] at d3
      rw [← hbel.cell (p := ⟨b1, o1 + k * 11 + 4, none⟩) hbw1] at c4
      rw [← hbel.cell (p := ⟨b2, o2 + k * 11 + 4, none⟩) hbw2] at d4
      rw [← hbel.cell (p := ⟨b1, o1 + k * 11 + 5, none⟩) hbw1] at c5
      rw [← hbel.cell (p := ⟨b2, o2 + k * 11 + 5, none⟩) hbw2] at d5
      rw [← hbel.cell (p := ⟨b1, o1 + k * 11 + 6, none⟩) hbw1] at c6
      rw [← hbel.cell (p := ⟨b2, o2 + k * 11 + 6, none⟩) hbw2] at d6
      rw [← hbel.cell (p := ⟨b1, o1 + k * 11 + 7, none⟩) hbw1] at c7
      rw [← hbel.cell (p := ⟨b2, o2 + k * 11 + 7, none⟩) hbw2] at d7
      rw [← hbel.cell (p := ⟨b1, o1 + k * 11 + 8, none⟩) hbw1] at c8
      rw [← hbel.cell (p := ⟨b2, o2 + k * 11 + 8, none⟩) hbw2] at d8
      rw [← hbel.cell (p := ⟨b1, o1 + k * 11 + 9, none⟩) hbw1] at c9
      rw [← hbel.cell (p := ⟨b2, o2 + k * 11 + 9, none⟩) hbw2] at d9
      rw [← hbel.cell (p := ⟨b1, o1 + k * 11 + 10, none⟩) hbw1] at c10
      rw [← hbel.cell (p := ⟨b2, o2 + k * 11 + 10, none⟩) hbw2] at d10
      generalize (eAt L k).Op = Op at c0 d0
      generalize (eAt L k).L.K = LK at c1 d1
      generalize (eAt L k).L.S = LS at c2 d2
      generalize (eAt L k).L.V.K = LVK at c3 d3
      generalize (eAt L k).L.V.N = LVN at c4 d4
      generalize (eAt L k).L.V.S = LVS at c5 d5
      generalize (eAt L k).R.K = RK at c6 d6
      generalize (eAt L k).R.S = RS at c7 d7
      generalize (eAt L k).R.V.K = RVK at c8 d8
      generalize (eAt L k).R.V.N = RVN at c9 d9
      generalize (eAt L k).R.V.S = RVS at c10 d10
      go_wp2_with fail
      go_region_held3 (fun W => W.cell? ⟨b1, o1 + k * 11, none⟩ = some (.string Op) ∧ W.cell? ⟨b1, o1 + k * 11 + 1, none⟩ = some (.int .i64 LK) ∧ W.cell? ⟨b1, o1 + k * 11 + 2, none⟩ = some (.string LS) ∧ W.cell? ⟨b1, o1 + k * 11 + 3, none⟩ = some (.int .i64 LVK) ∧ W.cell? ⟨b1, o1 + k * 11 + 4, none⟩ = some (.int .i64 LVN) ∧ W.cell? ⟨b1, o1 + k * 11 + 5, none⟩ = some (.string LVS) ∧ W.cell? ⟨b1, o1 + k * 11 + 6, none⟩ = some (.int .i64 RK) ∧ W.cell? ⟨b1, o1 + k * 11 + 7, none⟩ = some (.string RS) ∧ W.cell? ⟨b1, o1 + k * 11 + 8, none⟩ = some (.int .i64 RVK) ∧ W.cell? ⟨b1, o1 + k * 11 + 9, none⟩ = some (.int .i64 RVN) ∧ W.cell? ⟨b1, o1 + k * 11 + 10, none⟩ = some (.string RVS) ∧ W.cell? ⟨b2, o2 + k * 11, none⟩ = some (.string Op) ∧ W.cell? ⟨b2, o2 + k * 11 + 1, none⟩ = some (.int .i64 LK) ∧ W.cell? ⟨b2, o2 + k * 11 + 2, none⟩ = some (.string LS) ∧ W.cell? ⟨b2, o2 + k * 11 + 3, none⟩ = some (.int .i64 LVK) ∧ W.cell? ⟨b2, o2 + k * 11 + 4, none⟩ = some (.int .i64 LVN) ∧ W.cell? ⟨b2, o2 + k * 11 + 5, none⟩ = some (.string LVS) ∧ W.cell? ⟨b2, o2 + k * 11 + 6, none⟩ = some (.int .i64 RK) ∧ W.cell? ⟨b2, o2 + k * 11 + 7, none⟩ = some (.string RS) ∧ W.cell? ⟨b2, o2 + k * 11 + 8, none⟩ = some (.int .i64 RVK) ∧ W.cell? ⟨b2, o2 + k * 11 + 9, none⟩ = some (.int .i64 RVN) ∧ W.cell? ⟨b2, o2 + k * 11 + 10, none⟩ = some (.string RVS) ∧ Below w.heap.size w W ∧ w.heap.size ≤ W.heap.size) (first | exact ⟨c0, c1, c2, c3, c4, c5, c6, c7, c8, c9, c10, d0, d1, d2, d3, d4, d5, d6, d7, d8, d9, d10, hbel.drew, hbel.size⟩ | exact keepExpr (by assumption) (by assumption))
        (first | (go_at_call 155; refine (eqExpr_same _ _ _ _ _ _ _ _ _ _ _ _).mono ?_; rintro e w2 ⟨rfl, hb⟩))
      all_goals
        obtain ⟨-, -, -, -, -, -, -, -, -, -, -, -, -, -, -, -, -, -, -, -, -, -, hB2, -⟩ : w2.cell? ⟨b1, o1 + k * 11, none⟩ = some (.string Op) ∧ w2.cell? ⟨b1, o1 + k * 11 + 1, none⟩ = some (.int .i64 LK) ∧ w2.cell? ⟨b1, o1 + k * 11 + 2, none⟩ = some (.string LS) ∧ w2.cell? ⟨b1, o1 + k * 11 + 3, none⟩ = some (.int .i64 LVK) ∧ w2.cell? ⟨b1, o1 + k * 11 + 4, none⟩ = some (.int .i64 LVN) ∧ w2.cell? ⟨b1, o1 + k * 11 + 5, none⟩ = some (.string LVS) ∧ w2.cell? ⟨b1, o1 + k * 11 + 6, none⟩ = some (.int .i64 RK) ∧ w2.cell? ⟨b1, o1 + k * 11 + 7, none⟩ = some (.string RS) ∧ w2.cell? ⟨b1, o1 + k * 11 + 8, none⟩ = some (.int .i64 RVK) ∧ w2.cell? ⟨b1, o1 + k * 11 + 9, none⟩ = some (.int .i64 RVN) ∧ w2.cell? ⟨b1, o1 + k * 11 + 10, none⟩ = some (.string RVS) ∧ w2.cell? ⟨b2, o2 + k * 11, none⟩ = some (.string Op) ∧ w2.cell? ⟨b2, o2 + k * 11 + 1, none⟩ = some (.int .i64 LK) ∧ w2.cell? ⟨b2, o2 + k * 11 + 2, none⟩ = some (.string LS) ∧ w2.cell? ⟨b2, o2 + k * 11 + 3, none⟩ = some (.int .i64 LVK) ∧ w2.cell? ⟨b2, o2 + k * 11 + 4, none⟩ = some (.int .i64 LVN) ∧ w2.cell? ⟨b2, o2 + k * 11 + 5, none⟩ = some (.string LVS) ∧ w2.cell? ⟨b2, o2 + k * 11 + 6, none⟩ = some (.int .i64 RK) ∧ w2.cell? ⟨b2, o2 + k * 11 + 7, none⟩ = some (.string RS) ∧ w2.cell? ⟨b2, o2 + k * 11 + 8, none⟩ = some (.int .i64 RVK) ∧ w2.cell? ⟨b2, o2 + k * 11 + 9, none⟩ = some (.int .i64 RVN) ∧ w2.cell? ⟨b2, o2 + k * 11 + 10, none⟩ = some (.string RVS) ∧ Below w.heap.size w w2 ∧ w.heap.size ≤ w2.heap.size := by assumption
        go_wp2
        go_roundw
        case rel => exact ⟨k + 1, by omega, by go_num, hB2⟩
        case measure => simp [intOf]; omega
    · go_wp2
      go_ret
      exact ⟨rfl, hbel⟩
end Go.Proofs.Ytfgigcdfmkfkjaa
/-
  The contracts of the laws' own helpers on acts: toAct copies, szAct counts off, eqAct finds an act the same as itself.
-/
namespace Go.Proofs.Ytfgigcdfmkfkjaa
open Go.RowKit
set_option linter.unusedVariables false

set_option maxRecDepth 100000 in
set_option maxHeartbeats 3200000 in
theorem toAct_any (K : Int) (nm : ByteArray) (a : Option Addr) (cap : Nat) (L : List X11) (N : Int) (un : ByteArray) (w : World) (hr : RdExpr w a L) (hn : L.length ≤ 1048576) :
    Calls Try.prog 96 #[.agg #[.int .i64 K, .string nm, .slice a L.length cap, .int .i64 N, .string un]] w fun e w' =>
      ∃ g, e = .returned (.agg #[.int .i64 K, .string nm, .slice (some ⟨g, 0, none⟩) L.length L.length, .int .i64 N, .string un]) ∧ w.heap.size ≤ g ∧ OwnExpr w' g L.length L ∧ Below w.heap.size w w' := by
  go_enter Try.func96, Try.ntmps96
  go_wp2_with fail
  obtain ⟨hA, hR, hX, b2⟩ := boxes3 w #[.int .i64 K, .string nm, .slice a L.length cap, .int .i64 N, .string un] #[.int .i64 0, .string ⟨#[]⟩, .slice none 0 0, .int .i64 0, .string ⟨#[]⟩] #[.int .i64 K, .string nm, .slice none 0 0, .int .i64 0, .string ⟨#[]⟩] 148 166 166
  refine (toExprS_at a cap L _ (hr.below b2) hn).mono ?_
  rintro e w1 ⟨rfl, ho, hb⟩
  have HA := hide (box_below hA hb (by simp; omega))
  have HR := hide (box_below hR hb (by simp))
  have HX := hide (box_below hX hb (by simp))
  have hB : Below w.heap.size w w1 := b2.trans (hb.mono b2.size)
  have hO : OwnExpr w1 _ _ L := OwnK.of X11.len (by decide) ho
  clear ho hb hR hX hA b2
  simp only [World.size_alloc] at hO ⊢
  have p3 := boxk_cell HA.out 3 _ rfl
  have p4 := boxk_cell HA.out 4 _ rfl
  have x0 := boxk_cell HX.out 0 _ rfl
  have x1 := boxk_cell HX.out 1 _ rfl
  have x2 := boxk_cell HX.out 2 _ rfl
  have x3 := boxk_cell HX.out 3 _ rfl
  have x4 := boxk_cell HX.out 4 _ rfl
  have xf2 := boxk_frozen HX.out 2
  have xf3 := boxk_frozen HX.out 3
  have xf4 := boxk_frozen HX.out 4
  have r0 := boxk_cell HR.out 0 _ rfl
  have r1 := boxk_cell HR.out 1 _ rfl
  have r2 := boxk_cell HR.out 2 _ rfl
  have r3 := boxk_cell HR.out 3 _ rfl
  have r4 := boxk_cell HR.out 4 _ rfl
  have rf0 := boxk_frozen HR.out 0
  have rf1 := boxk_frozen HR.out 1
  have rf2 := boxk_frozen HR.out 2
  have rf3 := boxk_frozen HR.out 3
  have rf4 := boxk_frozen HR.out 4
  have HX2 := hide (boxk_set HX.out 2 (.slice (some ⟨w.heap.size + 1 + 1 + 1, 0, none⟩) L.length L.length))
  have HX3 := hide (boxk_set HX2.out.1 3 (.int .i64 N))
  have HX4 := hide (boxk_set HX3.out.1 4 (.string un))
  have HR2 := hide (box_gr (box_gr (box_gr HR.out HX2.out.2 (by omega)) HX3.out.2 (by omega)) HX4.out.2 (by omega))
  have HB2 := hide (below_set (below_set (below_set hB HX2.out.2 (by omega)) HX3.out.2 (by omega)) HX4.out.2 (by omega))
  have hz := hO.lt
  have HO2 := hide (((hO.grown HX2.out.2 (by omega)).grown HX3.out.2 (by omega)).grown HX4.out.2 (by omega))
  clear hO hB
  go_wp2
  refine box5_post HR2.out (fun w4 h4 gr => ?_)
  clear x0 x1 x2 x3 x4 xf2 xf3 xf4 r0 r1 r2 r3 r4 rf0 rf1 rf2 rf3 rf4 p3 p4
  have c0 := boxk_cell h4 0 _ rfl
  have c1 := boxk_cell h4 1 _ rfl
  have c2 := boxk_cell h4 2 _ rfl
  have c3 := boxk_cell h4 3 _ rfl
  have c4 := boxk_cell h4 4 _ rfl
  exact bodyPost_ret (v := .agg #[.int .i64 K, .string nm, .slice (some ⟨w.heap.size + 1 + 1 + 1, 0, none⟩) L.length L.length, .int .i64 N, .string un]) (by simp [results, Try.results96, go_sem, c0, c1, c2, c3, c4]) rfl
    ⟨_, rfl, by omega, HO2.out.grown gr (by omega), below_set HB2.out gr (by omega)⟩

set_option maxRecDepth 100000 in
set_option maxHeartbeats 1600000 in
theorem szAct_any (K : Int) (nm : ByteArray) (a : Option Addr) (cap : Nat) (L : List X11) (N : Int) (un : ByteArray) (left : Int) (w : World) (hkd : nm.size ≤ maxLen) (hun : un.size ≤ maxLen) (hr : RdExpr w a L) (hs : ∀ x ∈ L, x.fits) (hm : L.length ≤ maxLen) (h0 : 0 ≤ left) (h1 : left ≤ 1048576) :
    Calls Try.prog 90 #[.agg #[.int .i64 K, .string nm, .slice a L.length cap, .int .i64 N, .string un], .int .i64 left] w fun e w' =>
      (∃ r, e = .returned (.int .i64 r) ∧ (r = -1 ∨ (0 ≤ r ∧ r + (nm.size : Int) + (L.length : Int) + (un.size : Int) ≤ left ∧ ∀ x ∈ L, x.small))) ∧ Below w.heap.size w w' := by
  unfold maxLen at hkd hun
  by_cases h2 : left - (nm.size : Int) < 0
  · go_enter Try.func90, Try.ntmps90
    go_wp2
    go_ret
    exact ⟨⟨-1, rfl, .inl rfl⟩, by go_grown⟩
  · have b0 := below_al w (.cells #[.int .i64 K, .string nm, .slice a L.length cap, .int .i64 N, .string un] 148)
    have hA := boxk_new w #[.int .i64 K, .string nm, .slice a L.length cap, .int .i64 N, .string un] 148
    go_enter Try.func90, Try.ntmps90
    go_wp2_with fail
    refine (szExprS_any a cap L (left - nm.size) _ (hr.below b0) hs hm (by omega) (by omega)).mono ?_
    rintro e w1 ⟨⟨r, rfl, hr1⟩, hb1⟩
    have hB1 : Below w.heap.size w w1 := b0.trans (hb1.mono b0.size)
    have HA1 := hide (box_step hA hb1)
    clear hb1 b0 hA
    rcases hr1 with rfl | ⟨hr2, hr3, hsm⟩
    · go_wp2
      go_ret
      exact ⟨⟨-1, rfl, .inl rfl⟩, hB1⟩
    · have HSm := hide hsm
      clear hsm
      have a4 := boxk_cell HA1.out 4 _ rfl
      by_cases h3 : r - (un.size : Int) < 0
      · go_wp2
        go_ret
        exact ⟨⟨-1, rfl, .inl rfl⟩, hB1⟩
      · go_wp2
        go_ret
        exact ⟨⟨r - un.size, rfl, .inr ⟨by omega, by omega, HSm.out⟩⟩, hB1⟩

set_option maxRecDepth 100000 in
set_option maxHeartbeats 1600000 in
theorem eqAct_same (K : Int) (nm : ByteArray) (a b : Option Addr) (ca cb : Nat) (L : List X11) (N : Int) (un : ByteArray) (w : World) (hr : RdExpr w a L) (hq : RdExpr w b L) (hn : L.length ≤ 1048580) :
    Calls Try.prog 106 #[.agg #[.int .i64 K, .string nm, .slice a L.length ca, .int .i64 N, .string un], .agg #[.int .i64 K, .string nm, .slice b L.length cb, .int .i64 N, .string un]] w fun e w' =>
      e = .returned (.bool true) ∧ Below w.heap.size w w' := by
  have k0 : (K != K) = false := by simp
  have k1 : (nm.toList == nm.toList) = true := by simp
  have k2 : (N != N) = false := by simp
  have k3 : (un.toList == un.toList) = true := by simp
  go_enter Try.func106, Try.ntmps106
  go_wp2_with fail
  obtain ⟨hP, hQ, b1⟩ := boxes2 w #[.int .i64 K, .string nm, .slice a L.length ca, .int .i64 N, .string un] #[.int .i64 K, .string nm, .slice b L.length cb, .int .i64 N, .string un] 166 166
  refine (eqExprS_same a b ca cb L _ (hr.below b1) (hq.below b1) (by omega)).mono ?_
  rintro e w1 ⟨rfl, hb⟩
  have hB : Below w.heap.size w w1 := b1.trans (hb.mono b1.size)
  have p3 := boxk_cell (box_step hP hb) 3 _ rfl
  have q3 := boxk_cell (box_step hQ hb) 3 _ rfl
  have p4 := boxk_cell (box_step hP hb) 4 _ rfl
  have q4 := boxk_cell (box_step hQ hb) 4 _ rfl
  clear hP hQ hb
  go_wp2
  go_ret
  exact ⟨rfl, hB⟩
/-- what two lists of terms read as, on the way -/
def TwoX (w0 : World) (B : Nat) (a b : Option Addr) (L : List X11) (W : World) : Prop := RdExpr W a L ∧ RdExpr W b L ∧ Below B w0 W ∧ B ≤ W.heap.size
theorem TwoX.keep {w0 W w' : World} {B : Nat} {a b : Option Addr} {L : List X11} (h : TwoX w0 B a b L W) (hb : Below W.heap.size W w') : TwoX w0 B a b L w' :=
  ⟨h.1.below hb, h.2.1.below hb, h.2.2.1.trans (hb.mono h.2.2.2), Nat.le_trans h.2.2.2 hb.size⟩
theorem TwoX.drew {w0 W : World} {B : Nat} {a b : Option Addr} {L : List X11} (h : TwoX w0 B a b L W) : TwoX w0 B a b L W.drew :=
  ⟨h.1.heap rfl, h.2.1.heap rfl, h.2.2.1.drew, h.2.2.2⟩
theorem keepX {w0 W w' : World} {B : Nat} {p0 p1 p2 p3 p4 p5 p6 p7 p8 p9 : Addr} {v0 v1 v2 v3 v4 v5 v6 v7 v8 v9 : Value} {a b : Option Addr} {L : List X11} (hb : Below W.heap.size W w')
    (h : W.cell? p0 = some v0 ∧ W.cell? p1 = some v1 ∧ W.cell? p2 = some v2 ∧ W.cell? p3 = some v3 ∧ W.cell? p4 = some v4 ∧ W.cell? p5 = some v5 ∧ W.cell? p6 = some v6 ∧ W.cell? p7 = some v7 ∧ W.cell? p8 = some v8 ∧ W.cell? p9 = some v9 ∧ TwoX w0 B a b L W) :
    w'.cell? p0 = some v0 ∧ w'.cell? p1 = some v1 ∧ w'.cell? p2 = some v2 ∧ w'.cell? p3 = some v3 ∧ w'.cell? p4 = some v4 ∧ w'.cell? p5 = some v5 ∧ w'.cell? p6 = some v6 ∧ w'.cell? p7 = some v7 ∧ w'.cell? p8 = some v8 ∧ w'.cell? p9 = some v9 ∧ TwoX w0 B a b L w' := by
  obtain ⟨h0, h1, h2, h3, h4, h5, h6, h7, h8, h9, h10⟩ := h
  have k : ∀ {a : Addr} {v : Value}, W.cell? a = some v → w'.cell? a = some v := fun {a v} h => by rw [hb.cell (World.block_lt_of_cell? W _ h)]; exact h
  exact ⟨k h0, k h1, k h2, k h3, k h4, k h5, k h6, k h7, k h8, k h9, h10.keep hb⟩
theorem rdXA {w0 W : World} {B : Nat} {p0 p1 p2 p3 p4 p5 p6 p7 p8 p9 : Addr} {v0 v1 v2 v3 v4 v5 v6 v7 v8 v9 : Value} {a b : Option Addr} {L : List X11}
    (h : W.cell? p0 = some v0 ∧ W.cell? p1 = some v1 ∧ W.cell? p2 = some v2 ∧ W.cell? p3 = some v3 ∧ W.cell? p4 = some v4 ∧ W.cell? p5 = some v5 ∧ W.cell? p6 = some v6 ∧ W.cell? p7 = some v7 ∧ W.cell? p8 = some v8 ∧ W.cell? p9 = some v9 ∧ TwoX w0 B a b L W) : RdExpr W a L := h.2.2.2.2.2.2.2.2.2.2.1
theorem rdXB {w0 W : World} {B : Nat} {p0 p1 p2 p3 p4 p5 p6 p7 p8 p9 : Addr} {v0 v1 v2 v3 v4 v5 v6 v7 v8 v9 : Value} {a b : Option Addr} {L : List X11}
    (h : W.cell? p0 = some v0 ∧ W.cell? p1 = some v1 ∧ W.cell? p2 = some v2 ∧ W.cell? p3 = some v3 ∧ W.cell? p4 = some v4 ∧ W.cell? p5 = some v5 ∧ W.cell? p6 = some v6 ∧ W.cell? p7 = some v7 ∧ W.cell? p8 = some v8 ∧ W.cell? p9 = some v9 ∧ TwoX w0 B a b L W) : RdExpr W b L := h.2.2.2.2.2.2.2.2.2.2.2.1
end Go.Proofs.Ytfgigcdfmkfkjaa
/-
  The contracts of the laws' own helpers on rows of Acts: sz counts off, to copies, eq finds a row the same as its like.
-/
namespace Go.Proofs.Ytfgigcdfmkfkjaa
open Go.RowKit
set_option linter.unusedVariables false

theorem Try.info166D : (Try.prog.info? 166).map (fun i => (i.zero, i.size, i.bytes)) = some (some (.agg #[.int .i64 0, .string ⟨#[]⟩, .slice none 0 0, .int .i64 0, .string ⟨#[]⟩]), 5, 72) := by kernel_rfl

set_option maxRecDepth 100000 in
set_option maxHeartbeats 1600000 in
theorem szActS_any (a : Option Addr) (cap : Nat) (J : List QE) (left : Int) (w : World) (hr : RdActS w a J) (hs : ∀ x ∈ J, x.ok) (hm : J.length ≤ maxLen) (h0 : 0 ≤ left) (h1 : left ≤ 1048576) :
    Calls Try.prog 51 #[.slice a J.length cap, .int .i64 left] w fun e w' =>
      (∃ r, e = .returned (.int .i64 r) ∧ (r = -1 ∨ (0 ≤ r ∧ r + ((J.length + (J.map QE.sz).sum : Nat) : Int) ≤ left ∧ ∀ x ∈ J, x.small))) ∧ Below w.heap.size w w' := by
  unfold maxLen at hm
  obtain ⟨n, hN⟩ : ∃ n, n = J.length := ⟨_, rfl⟩
  rw [← hN] at hm ⊢
  have HN := hide hN
  have HS := hide hs
  clear hN hs
  by_cases h2 : left - (n : Int) < 0
  · go_enter Try.func51, Try.ntmps51
    go_wp2
    go_ret
    exact ⟨⟨-1, rfl, .inl rfl⟩, Below.refl _ _⟩
  · go_enter Try.func51, Try.ntmps51
    go_wp2
    go_loopw [1, 5] (fun l i wr => ∃ (k : Nat) (lf : Int), k ≤ n ∧ i = .int .i64 k ∧ l = .int .i64 lf ∧ 0 ≤ lf ∧ lf + (totW QE.sz J k : Int) ≤ left - n ∧ (∀ j, j < k → (eAt J j).small) ∧ Below w.heap.size w wr) (fun _ i _ => n - (intOf i).toNat)
    case atStart => exact ⟨0, left - n, Nat.zero_le _, rfl, rfl, by omega, by rw [totW_zero]; simp, fun j hj => absurd hj (Nat.not_lt_zero _), Below.refl _ _⟩
    case round =>
      obtain ⟨k, lf, hk, rfl, rfl, hlf, hsum, hsm, hbel⟩ := hrel
      have HSm := hide hsm
      clear hsm
      by_cases hlt : k < n
      · obtain ⟨b, off, hab, hbw, hc⟩ := hr.cells (by rw [← HN.out]; omega)
        obtain ⟨c0, c1, c2, c3, c4, hv⟩ := hc k (by rw [← HN.out]; exact hlt)
        have HV := hide (hv.below (hbel.mono (Nat.le_refl _)))
        clear hc hv
        subst hab
        rw [← hbel.cell (p := ⟨b, off + k * 5, none⟩) hbw] at c0
        rw [← hbel.cell (p := ⟨b, off + k * 5 + 1, none⟩) hbw] at c1
        rw [← hbel.cell (p := ⟨b, off + k * 5 + 2, none⟩) hbw] at c2
        rw [← hbel.cell (p := ⟨b, off + k * 5 + 3, none⟩) hbw] at c3
        rw [← hbel.cell (p := ⟨b, off + k * 5 + 4, none⟩) hbw] at c4
        have HK : Hid ((eAt J k).ok) := by unfold Hid; rw [eAt_in (by rw [← HN.out]; exact hlt)]; exact HS.out _ (List.getElem_mem _)
        have hst := totW_step (wt := QE.sz) (K := J) (j := k) (by rw [← HN.out]; exact hlt)
        have HSx : Hid ((eAt J k).small → ∀ j, j < k + 1 → (eAt J j).small) := fun hx j hj => by
          by_cases hjk : j = k
          · rw [hjk]; exact hx
          · exact HSm.out j (by omega)
        generalize eAt J k = x at c0 c1 c2 c3 c4 HV HK hst HSx
        obtain ⟨x0, x1, va, vc, L, x3, x4⟩ := x
        rw [show QE.sz ⟨x0, x1, va, vc, L, x3, x4⟩ = x1.size + L.length + x4.size from rfl] at hst
        simp only at c0 c1 c2 c3 c4 HV HK HSx
        unfold QE.ok at HK
        go_wp2_with fail
        refine (szAct_any x0 x1 va vc L x3 x4 lf _ HK.out.1 HK.out.2.1 HV.out HK.out.2.2.2 HK.out.2.2.1 hlf (by omega)).mono ?_
        rintro e w2 ⟨⟨r, rfl, hr1⟩, hb2⟩
        have hbel2 : Below w.heap.size w w2 := hbel.trans (hb2.mono hbel.size)
        clear hb2 c0 c1 c2 c3 c4 hbel
        rcases hr1 with rfl | ⟨hr2, hr3, hr4⟩
        · go_wp2
          go_ret
          exact ⟨⟨-1, rfl, .inl rfl⟩, hbel2⟩
        · have HR : Hid (r + (totW QE.sz J (k + 1) : Int) ≤ left - n) := by unfold Hid; rw [hst]; omega
          have HY := hide (HSx.out ⟨by show x1.size ≤ 1048576; omega, by show x4.size ≤ 1048576; omega, by show L.length ≤ 1048576; omega, hr4⟩)
          have h3 : ¬ (r < 0) := by omega
          clear hr3 hr4 hst hsum HSx
          go_wp2
          go_roundw
          case rel => exact ⟨k + 1, r, by omega, by go_num, rfl, hr2, HR.out, HY.out, hbel2⟩
          case measure => simp [intOf]; omega
      · have HK : Hid (lf + ((n + (J.map QE.sz).sum : Nat) : Int) ≤ left) := by
          unfold Hid
          have hkn : k = J.length := by rw [← HN.out]; omega
          rw [hkn, totW_end] at hsum
          omega
        have HAll : Hid (∀ x ∈ J, x.small) := fun x hx => by
          obtain ⟨j, hj, rfl⟩ := List.getElem_of_mem hx
          rw [← eAt_in hj]
          exact HSm.out j (by rw [← HN.out] at hj; omega)
        clear hsum
        go_wp2
        go_ret
        exact ⟨⟨lf, rfl, .inr ⟨hlf, HK.out, HAll.out⟩⟩, hbel⟩

set_option maxRecDepth 100000 in
set_option maxHeartbeats 3200000 in
theorem toActS_any (a : Option Addr) (cap : Nat) (J : List QE) (w : World) (hr : RdActS w a J) (hn : J.length ≤ 1048576) (hl : ∀ x ∈ J, x.L.length ≤ 1048576) :
    Calls Try.prog 57 #[.slice a J.length cap] w fun e w' =>
      ∃ K g, e = .returned (.slice (some ⟨g, 0, none⟩) J.length J.length) ∧ OwnActS w' w.heap.size w'.heap.size g J.length K K.length ∧ K.map QE.pl = J.map QE.pl ∧ Below w.heap.size w w' := by
  obtain ⟨i0, hi, hz0, hz1, hz2⟩ := info_parts Try.info166D
  obtain ⟨n, hN⟩ : ∃ n, n = J.length := ⟨_, rfl⟩
  rw [← hN] at hn ⊢
  have HN := hide hN
  have HL := hide hl
  clear hN hl
  go_enter Try.func57, Try.ntmps57
  go_wp2_with (at_make; refine wpList_make_full _ rfl _ _ 47 rfl w.heap.size 166 i0 (.agg #[.int .i64 0, .string ⟨#[]⟩, .slice none 0 0, .int .i64 0, .string ⟨#[]⟩]) 5 Try.underlying47 hi hz0 hz1 _ _ _ _ n rfl rfl (by omega) (by omega) ?b2 ?b3 (Nat.le_refl _) ?_)
  case b2 => rw [hz2]; omega
  case b3 => unfold maxLen; omega
  intro w0 hown0 hgrow0
  have hmd : (madeCells #[.int .i64 0, .string ⟨#[]⟩, .slice none 0 0, .int .i64 0, .string ⟨#[]⟩] (n * 5)).toList = rowOf QE.cs (List.replicate n QE.zero) := rowOf_made (x := QE.zero) (cs := #[.int .i64 0, .string ⟨#[]⟩, .slice none 0 0, .int .i64 0, .string ⟨#[]⟩]) rfl (by decide) n
  rw [hmd] at hown0
  clear hmd
  have hs0 : w.heap.size < w0.heap.size := (hown0.lt w.heap.size rfl).2
  have hb0 : Below w.heap.size w w0 := (Below.refl _ _).grown hgrow0 (Nat.le_refl _) (fun k h => by cases h)
  have hO0 : OwnActS w0 w.heap.size w0.heap.size w.heap.size n (List.replicate n QE.zero) 0 := OwnD.zero (OwnK.of QE.len (by decide) hown0) (Nat.le_refl _) (Nat.le_refl _) hs0
  clear hown0 hgrow0
  go_wp2
  go_loopw [4] (fun i wr => ∃ (k : Nat) (K : List QE), k ≤ n ∧ i = .int .i64 k ∧ K.length = n ∧ OwnActS wr w.heap.size wr.heap.size w.heap.size n K k ∧ (∀ i, i < k → (eAt K i).pl = (eAt J i).pl) ∧ Below w.heap.size w wr)
    (fun i _ => n - (intOf i).toNat)
  case atStart => exact ⟨0, List.replicate n QE.zero, Nat.zero_le _, rfl, by simp, hO0, fun i hi => absurd hi (Nat.not_lt_zero _), hb0⟩
  case round =>
    clear hO0 hb0 hs0
    obtain ⟨k, K, hk, rfl, hKn, hO, hpl, hbel⟩ := hrel
    have HKn := hide hKn
    have HPl := hide hpl
    have HO := hide hO
    clear hKn hpl hO
    by_cases hlt : k < n
    · obtain ⟨b, off, hab, hbw, hc⟩ := hr.cells (by rw [← HN.out]; omega)
      obtain ⟨c0, c1, c2, c3, c4, hv⟩ := hc k (by rw [← HN.out]; exact hlt)
      have HV := hide (hv.below hbel)
      clear hc hv
      subst hab
      rw [← hbel.cell (p := ⟨b, off + k * 5, none⟩) hbw] at c0
      rw [← hbel.cell (p := ⟨b, off + k * 5 + 1, none⟩) hbw] at c1
      rw [← hbel.cell (p := ⟨b, off + k * 5 + 2, none⟩) hbw] at c2
      rw [← hbel.cell (p := ⟨b, off + k * 5 + 3, none⟩) hbw] at c3
      rw [← hbel.cell (p := ⟨b, off + k * 5 + 4, none⟩) hbw] at c4
      have HK : Hid ((eAt J k).L.length ≤ 1048576) := by unfold Hid; rw [eAt_in (by rw [← HN.out]; exact hlt)]; exact HL.out _ (List.getElem_mem _)
      obtain ⟨x, hx⟩ : ∃ x, x = eAt J k := ⟨_, rfl⟩
      rw [← hx] at c0 c1 c2 c3 c4 HV HK
      have HX := hide hx
      clear hx
      obtain ⟨x0, x1, va, vc, L, x3, x4⟩ := x
      simp only at c0 c1 c2 c3 c4 HV HK
      go_wp2_with fail
      refine (toAct_any x0 x1 va vc L x3 x4 _ HV.out HK.out).mono ?_
      rintro e w2 ⟨g, rfl, hg, o, hb2⟩
      have hown2 : w2.ownsRow 0 166 5 (.slice (some ⟨w.heap.size, 0, none⟩) n n) n (rowOf QE.cs K) := by
        have := ownsRow_below' HO.out.own hb2
        rw [HKn.out] at this; exact this
      have hbel2 : Below w.heap.size w w2 := hbel.trans (hb2.mono hbel.size)
      have hlen : (rowOf QE.cs K).length = n * 5 := by rw [rowOf_length QE.len, HKn.out]
      have hmem : ∀ j, j < 5 → ∃ u, w2.cell? ⟨w.heap.size, k * 5 + j, none⟩ = some u := fun j hj => by
        rw [hown2.cellAt (k * 5 + j) (by omega), List.getElem?_eq_getElem (by omega)]
        exact ⟨_, rfl⟩
      obtain ⟨u0, m0⟩ := hmem 0 (by omega)
      obtain ⟨u1, m1⟩ := hmem 1 (by omega)
      obtain ⟨u2, m2⟩ := hmem 2 (by omega)
      obtain ⟨u3, m3⟩ := hmem 3 (by omega)
      obtain ⟨u4, m4⟩ := hmem 4 (by omega)
      rw [Nat.add_zero] at m0
      have f0 := hown2.frozenAt (k * 5)
      have f1 := hown2.frozenAt (k * 5 + 1)
      have f2 := hown2.frozenAt (k * 5 + 2)
      have f3 := hown2.frozenAt (k * 5 + 3)
      have f4 := hown2.frozenAt (k * 5 + 4)
      have s0 := hown2.stored (k * 5) (.int .i64 x0)
      have s1 := s0.1.stored (k * 5 + 1) (.string x1)
      have s2 := s1.1.stored (k * 5 + 2) (.slice (some ⟨g, 0, none⟩) L.length L.length)
      have s3 := s2.1.stored (k * 5 + 3) (.int .i64 x3)
      have s4 := s3.1.stored (k * 5 + 4) (.string x4)
      have hset := rowOf_set_QE ⟨x0, x1, some ⟨g, 0, none⟩, L.length, L, x3, x4⟩ K k (by rw [HKn.out]; exact hlt)
      have hgr := (grown_tt (grown_tt (grown_tt (grown_tt s0.2 s1.2) s2.2) s3.2) s4.2)
      have hown3 := s4.1
      simp only at hset
      rw [hset] at hown3
      have hO3 : OwnK 166 QE.cs 5 (((((w2.setCell ⟨w.heap.size, k * 5, none⟩ (.int .i64 x0)).setCell ⟨w.heap.size, k * 5 + 1, none⟩ (.string x1)).setCell ⟨w.heap.size, k * 5 + 2, none⟩ (.slice (some ⟨g, 0, none⟩) L.length L.length)).setCell ⟨w.heap.size, k * 5 + 3, none⟩ (.int .i64 x3)).setCell ⟨w.heap.size, k * 5 + 4, none⟩ (.string x4)) w.heap.size n (K.set k ⟨x0, x1, some ⟨g, 0, none⟩, L.length, L, x3, x4⟩) := OwnK.of QE.len (by decide) hown3
      have HC := hide (HO.out.step innAct (by rw [HKn.out]; exact hlt) hb2 (x := ⟨x0, x1, some ⟨g, 0, none⟩, L.length, L, x3, x4⟩) ⟨g, rfl, hg, o.lt, o⟩ hgr hO3)
      have HB := hide (below_set hbel2 hgr (Nat.le_refl _))
      have hsz3 : w2.heap.size ≤ (((((w2.setCell ⟨w.heap.size, k * 5, none⟩ (.int .i64 x0)).setCell ⟨w.heap.size, k * 5 + 1, none⟩ (.string x1)).setCell ⟨w.heap.size, k * 5 + 2, none⟩ (.slice (some ⟨g, 0, none⟩) L.length L.length)).setCell ⟨w.heap.size, k * 5 + 3, none⟩ (.int .i64 x3)).setCell ⟨w.heap.size, k * 5 + 4, none⟩ (.string x4)).heap.size := hgr.size
      have HLen : Hid ((K.set k ⟨x0, x1, some ⟨g, 0, none⟩, L.length, L, x3, x4⟩).length = n) := by unfold Hid; rw [List.length_set, HKn.out]
      have HPl2 : Hid (∀ i, i < k + 1 → (eAt (K.set k ⟨x0, x1, some ⟨g, 0, none⟩, L.length, L, x3, x4⟩) i).pl = (eAt J i).pl) := fun i hi => by
        rw [eAt_set (by rw [HKn.out]; exact hlt)]
        by_cases e : i = k
        · rw [if_pos e, e, ← HX.out]; rfl
        · rw [if_neg e]; exact HPl.out i (by omega)
      have HW := hide (HC.out.weaken (Nat.le_refl _) hsz3 (Nat.le_refl _))
      clear hmem hlen c0 c1 c2 c3 c4 hbel hb2 s0 s1 s2 s3 s4 hset hown2 hbel2 o HV HK HPl HO hO3 hown3 hgr HC hsz3
      go_wp2
      go_roundw
      case rel => exact ⟨k + 1, _, by omega, by go_num, HLen.out, HW.out, HPl2.out, HB.out⟩
      case measure => simp [intOf]; omega
    · have hkn : k = K.length := by rw [HKn.out]; omega
      have HR : Hid (OwnActS wr w.heap.size wr.heap.size w.heap.size n K K.length ∧ K.map QE.pl = J.map QE.pl) :=
        ⟨hkn ▸ HO.out, map_ext (by rw [HKn.out, HN.out]) (fun i hi => HPl.out i (by rw [hkn]; exact hi))⟩
      clear hkn
      go_wp2
      go_ret
      exact ⟨K, _, rfl, HR.out.1, HR.out.2, hbel⟩

/-- cells in memory, two lists, and all that was there at the head -/
theorem keepAct {w0 W w' : World} {p0 p1 p2 p3 p4 p5 p6 p7 p8 p9 : Addr} {v0 v1 v2 v3 v4 v5 v6 v7 v8 v9 : Value} {a b : Option Addr} {L : List X11} (hb : Below W.heap.size W w')
    (h : W.cell? p0 = some v0 ∧ W.cell? p1 = some v1 ∧ W.cell? p2 = some v2 ∧ W.cell? p3 = some v3 ∧ W.cell? p4 = some v4 ∧ W.cell? p5 = some v5 ∧ W.cell? p6 = some v6 ∧ W.cell? p7 = some v7 ∧ W.cell? p8 = some v8 ∧ W.cell? p9 = some v9 ∧ (RdExpr W a L ∧ RdExpr W b L ∧ Below w0.heap.size w0 W ∧ w0.heap.size ≤ W.heap.size)) :
    w'.cell? p0 = some v0 ∧ w'.cell? p1 = some v1 ∧ w'.cell? p2 = some v2 ∧ w'.cell? p3 = some v3 ∧ w'.cell? p4 = some v4 ∧ w'.cell? p5 = some v5 ∧ w'.cell? p6 = some v6 ∧ w'.cell? p7 = some v7 ∧ w'.cell? p8 = some v8 ∧ w'.cell? p9 = some v9 ∧ (RdExpr w' a L ∧ RdExpr w' b L ∧ Below w0.heap.size w0 w' ∧ w0.heap.size ≤ w'.heap.size) := by
  obtain ⟨g0, g1, g2, g3, g4, g5, g6, g7, g8, g9, q1, q2, q3, q4⟩ := h
  have k : ∀ {a : Addr} {v : Value}, W.cell? a = some v → w'.cell? a = some v := fun {a v} h => by rw [hb.cell (World.block_lt_of_cell? W _ h)]; exact h
  exact ⟨k g0, k g1, k g2, k g3, k g4, k g5, k g6, k g7, k g8, k g9, q1.below hb, q2.below hb, q3.trans (hb.mono q4), Nat.le_trans q4 hb.size⟩

set_option maxRecDepth 100000 in
set_option maxHeartbeats 3200000 in
theorem eqActS_same (a b : Option Addr) (ca cb n : Nat) (J K : List QE) (w : World) (hr : RdActS w a J) (hq : RdActS w b K) (hJ : J.length = n) (hpl : J.map QE.pl = K.map QE.pl) (hm : n ≤ 1048580) (hl : ∀ x ∈ J, x.L.length ≤ 1048576) :
    Calls Try.prog 67 #[.slice a n ca, .slice b n cb] w fun e w' =>
      e = .returned (.bool true) ∧ Below w.heap.size w w' := by
  have HJ := hide hJ
  have HK : Hid (K.length = n) := by unfold Hid; rw [← hJ, map_len hpl]
  have HP := hide hpl
  have HL := hide hl
  clear hJ hpl hl
  have hnn : ((n : Int) != (n : Int)) = false := by simp
  go_enter Try.func67, Try.ntmps67
  go_wp2
  go_loopw [5] (fun i wr => ∃ (k : Nat), k ≤ n ∧ i = .int .i64 k ∧ Below w.heap.size w wr) (fun i _ => n - (intOf i).toNat)
  case atStart => exact ⟨0, Nat.zero_le _, rfl, Below.refl _ _⟩
  case round =>
    obtain ⟨k, hk, rfl, hbel⟩ := hrel
    by_cases hlt : k < n
    · obtain ⟨b1, o1, e1, hbw1, hc1⟩ := hr.cells (by rw [HJ.out]; omega)
      obtain ⟨b2, o2, e2, hbw2, hc2⟩ := hq.cells (by rw [HK.out]; omega)
      obtain ⟨c0, c1, c2, c3, c4, hv1⟩ := hc1 k (by rw [HJ.out]; exact hlt)
      obtain ⟨d0, d1, d2, d3, d4, hv2⟩ := hc2 k (by rw [HK.out]; exact hlt)
      have HP1 := QE.pl_inj (map_at HP.out (i := k) (by rw [HJ.out]; exact hlt))
      have HLk : Hid ((eAt J k).L.length ≤ 1048576) := by unfold Hid; rw [eAt_in (by rw [HJ.out]; exact hlt)]; exact HL.out _ (List.getElem_mem _)
      replace hv1 := hv1.below hbel
      replace hv2 := hv2.below hbel
      clear hc1 hc2
      subst e1 e2
      rw [← hbel.cell (p := ⟨b1, o1 + k * 5, none⟩) hbw1] at c0
      rw [← hbel.cell (p := ⟨b1, o1 + k * 5 + 1, none⟩) hbw1] at c1
      rw [← hbel.cell (p := ⟨b1, o1 + k * 5 + 2, none⟩) hbw1] at c2
      rw [← hbel.cell (p := ⟨b1, o1 + k * 5 + 3, none⟩) hbw1] at c3
      rw [← hbel.cell (p := ⟨b1, o1 + k * 5 + 4, none⟩) hbw1] at c4
      rw [← hbel.cell (p := ⟨b2, o2 + k * 5, none⟩) hbw2] at d0
      rw [← hbel.cell (p := ⟨b2, o2 + k * 5 + 1, none⟩) hbw2] at d1
      rw [← hbel.cell (p := ⟨b2, o2 + k * 5 + 2, none⟩) hbw2] at d2
      rw [← hbel.cell (p := ⟨b2, o2 + k * 5 + 3, none⟩) hbw2] at d3
      rw [← hbel.cell (p := ⟨b2, o2 + k * 5 + 4, none⟩) hbw2] at d4
      generalize eAt J k = x at c0 c1 c2 c3 c4 hv1 HP1 HLk
      generalize eAt K k = y at d0 d1 d2 d3 d4 hv2 HP1
      obtain ⟨x0, x1, va, vc, L, x3, x4⟩ := x
      obtain ⟨y0, y1, vb, wc, M, y3, y4⟩ := y
      simp only at c0 c1 c2 c3 c4 hv1 d0 d1 d2 d3 d4 hv2 HP1 HLk
      obtain ⟨rfl, rfl, rfl, rfl, rfl⟩ := HP1
      have T0 : RdExpr wr va L ∧ RdExpr wr vb L ∧ Below w.heap.size w wr ∧ w.heap.size ≤ wr.heap.size := ⟨hv1, hv2, hbel, hbel.size⟩
      have T1 : RdExpr wr.drew va L := T0.1.heap rfl
      have T2 : RdExpr wr.drew vb L := T0.2.1.heap rfl
      clear hv1 hv2 hbel
      go_wp2_with fail
      go_region_held3 (fun W => W.cell? ⟨b1, o1 + k * 5, none⟩ = some (.int .i64 x0) ∧ W.cell? ⟨b1, o1 + k * 5 + 1, none⟩ = some (.string x1) ∧ W.cell? ⟨b1, o1 + k * 5 + 2, none⟩ = some (.slice va L.length vc) ∧ W.cell? ⟨b1, o1 + k * 5 + 3, none⟩ = some (.int .i64 x3) ∧ W.cell? ⟨b1, o1 + k * 5 + 4, none⟩ = some (.string x4) ∧ W.cell? ⟨b2, o2 + k * 5, none⟩ = some (.int .i64 x0) ∧ W.cell? ⟨b2, o2 + k * 5 + 1, none⟩ = some (.string x1) ∧ W.cell? ⟨b2, o2 + k * 5 + 2, none⟩ = some (.slice vb L.length wc) ∧ W.cell? ⟨b2, o2 + k * 5 + 3, none⟩ = some (.int .i64 x3) ∧ W.cell? ⟨b2, o2 + k * 5 + 4, none⟩ = some (.string x4) ∧ (RdExpr W va L ∧ RdExpr W vb L ∧ Below w.heap.size w W ∧ w.heap.size ≤ W.heap.size)) (first | exact ⟨c0, c1, c2, c3, c4, d0, d1, d2, d3, d4, T0.1.heap rfl, T0.2.1.heap rfl, T0.2.2.1.drew, T0.2.2.2⟩ | exact keepAct (by assumption) (by assumption))
        (first | (go_at_call 106; refine (eqAct_same _ _ _ _ _ _ _ _ _ _ T1 T2 (by have := HLk.out; omega)).mono ?_; rintro e w2 ⟨rfl, hb⟩))
      all_goals
        obtain ⟨-, -, -, -, -, -, -, -, -, -, -, -, hB2, -⟩ : w2.cell? ⟨b1, o1 + k * 5, none⟩ = some (.int .i64 x0) ∧ w2.cell? ⟨b1, o1 + k * 5 + 1, none⟩ = some (.string x1) ∧ w2.cell? ⟨b1, o1 + k * 5 + 2, none⟩ = some (.slice va L.length vc) ∧ w2.cell? ⟨b1, o1 + k * 5 + 3, none⟩ = some (.int .i64 x3) ∧ w2.cell? ⟨b1, o1 + k * 5 + 4, none⟩ = some (.string x4) ∧ w2.cell? ⟨b2, o2 + k * 5, none⟩ = some (.int .i64 x0) ∧ w2.cell? ⟨b2, o2 + k * 5 + 1, none⟩ = some (.string x1) ∧ w2.cell? ⟨b2, o2 + k * 5 + 2, none⟩ = some (.slice vb L.length wc) ∧ w2.cell? ⟨b2, o2 + k * 5 + 3, none⟩ = some (.int .i64 x3) ∧ w2.cell? ⟨b2, o2 + k * 5 + 4, none⟩ = some (.string x4) ∧ (RdExpr w2 va L ∧ RdExpr w2 vb L ∧ Below w.heap.size w w2 ∧ w.heap.size ≤ w2.heap.size) := by assumption
        go_wp2
        go_roundw
        case rel => exact ⟨k + 1, by omega, by go_num, hB2⟩
        case measure => simp [intOf]; omega
    · go_wp2
      go_ret
      exact ⟨rfl, hbel⟩
end Go.Proofs.Ytfgigcdfmkfkjaa
