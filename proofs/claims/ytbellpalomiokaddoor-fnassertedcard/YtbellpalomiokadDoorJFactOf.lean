/-
  What FactOf answers, the tested one and the model's alike: a copy of the first item's fact that has this Id, and true; the zero fact and false where there is none.
-/
import Derived.Test.YtbellpalomiokadDoorJoined1
namespace Go.Proofs.YtbellpalomiokadDoor
open Go.RowKit
set_option linter.unusedVariables false

/-- the fact of the first item of this Id -/
def facP : List P4 → Int → Option (ByteArray × List V3)
  | [], _ => none
  | p :: r, id => if p.id = id then some (p.kd, p.L) else facP r id
theorem facP_hit {id : Int} : ∀ {J : List It} {k : Nat}, k < J.length → (∀ j, j < k → (iAt J j).id ≠ id) → (iAt J k).id = id → facP (J.map It.pl) id = some ((iAt J k).kd, (iAt J k).L)
  | [], k, h, _, _ => absurd h (Nat.not_lt_zero _)
  | x :: r, 0, h, _, hs => by
    have e : iAt (x :: r) 0 = x := rfl
    rw [e] at hs ⊢
    show (if x.id = id then _ else _) = _
    rw [if_pos hs]; rfl
  | x :: r, k + 1, h, hn, hs => by
    have e : ∀ j, iAt (x :: r) (j + 1) = iAt r j := fun j => by simp [iAt, List.getD]
    have h0 := hn 0 (by omega)
    have e0 : iAt (x :: r) 0 = x := rfl
    rw [e0] at h0
    show (if x.id = id then _ else facP (r.map It.pl) id) = _
    rw [if_neg h0, e]
    rw [e] at hs
    exact facP_hit (by simpa using h) (fun j hj => by have := hn (j + 1) (by omega); rw [e] at this; exact this) hs
theorem facP_none {id : Int} : ∀ {J : List It}, (∀ j, j < J.length → (iAt J j).id ≠ id) → facP (J.map It.pl) id = none
  | [], _ => rfl
  | x :: r, hn => by
    have e : ∀ j, iAt (x :: r) (j + 1) = iAt r j := fun j => by simp [iAt, List.getD]
    have h0 := hn 0 (by simp)
    have e0 : iAt (x :: r) 0 = x := rfl
    rw [e0] at h0
    show (if x.id = id then _ else facP (r.map It.pl) id) = _
    rw [if_neg h0]
    exact facP_none (fun j hj => by have := hn (j + 1) (by simpa using hj); rw [e] at this; exact this)
/-- what is answered, none being the zero fact -/
def ansP (o : Option (ByteArray × List V3)) : ByteArray × List V3 × Bool := match o with
  | some (kd, L) => (kd, L, true)
  | none => (⟨#[]⟩, [], false)
/-- a fact is answered, its values in a row of the call's own -/
def GivesF (e : Ending) (w : World) (base : Nat) (r : ByteArray × List V3 × Bool) : Prop := ∃ a c, e = .returned (.tuple #[.agg #[.string r.1, .slice a r.2.1.length c], .bool r.2.2]) ∧ NewV w base a c r.2.1

set_option maxRecDepth 100000 in
set_option maxHeartbeats 3200000 in
theorem implFactOf_any (a : Option Addr) (n cap : Nat) (nx id : Int) (J : List It) (w : World) (hr : RdI w a J) (hJ : J.length = n) (hn : n ≤ 1048580) (hl : ∀ i, i < J.length → (iAt J i).L.length ≤ 1048580) (hli : ∀ i, i < J.length → LieV (iAt J i).a (iAt J i).L.length (iAt J i).cap) :
    Calls Tryd.prog 10 #[.agg #[.slice a n cap, .int .i64 nx], .int .i64 id] w fun e w' => GivesF e w' w.heap.size (ansP (facP (J.map It.pl) id)) ∧ Below w.heap.size w w' := by
  have HJ := hide hJ
  have HL := hide hl
  have HLi := hide hli
  clear hJ hl hli
  have b0 := below_al w (.cells #[.slice a n cap, .int .i64 nx] 26)
  have b1 := b0.alloc b0.size (.cells #[.string ⟨#[]⟩, .slice none 0 0] 29)
  have hR := box2_new (w.alloc (.cells #[.slice a n cap, .int .i64 nx] 26)) (.string ⟨#[]⟩) (.slice none 0 0) 29
  simp only [World.size_alloc] at hR
  replace hr := hr.below b1
  have HR := hide hR
  go_enter Tryd.func10, Tryd.ntmps10
  go_wp2
  generalize (w.alloc (.cells #[.slice a n cap, .int .i64 nx] 26)).alloc (.cells #[.string ⟨#[]⟩, .slice none 0 0] 29) = w1 at b1 hr HR ⊢
  clear b0 hR
  go_loopw [11] (fun i wr => ∃ (k : Nat), k ≤ n ∧ i = .int .i64 k ∧ (∀ j, j < k → (iAt J j).id ≠ id) ∧ Below w1.heap.size w1 wr) (fun i _ => n - (intOf i).toNat)
  case atStart => exact ⟨0, Nat.zero_le _, rfl, fun j hj => absurd hj (Nat.not_lt_zero _), Below.refl _ _⟩
  case round =>
    obtain ⟨k, hk, rfl, hno, hbel⟩ := hrel
    have HNo := hide hno
    clear hno
    have hB : Below w.heap.size w wr := b1.trans (hbel.mono b1.size)
    have HRr := hide (box_step HR.out hbel)
    by_cases hlt : k < n
    · obtain ⟨b2, o2, e2, hbw2, hc2⟩ := (hr.below hbel).open (by rw [HJ.out]; omega)
      obtain ⟨c0, c1, c2, hv⟩ := hc2 k (by rw [HJ.out]; exact hlt)
      have HLk := hide (HL.out k (by rw [HJ.out]; exact hlt))
      have HLik := hide (HLi.out k (by rw [HJ.out]; exact hlt))
      have HHit := hide (facP_hit (id := id) (k := k) (J := J) (by rw [HJ.out]; exact hlt) HNo.out)
      clear hc2
      subst e2
      obtain ⟨x, hx⟩ : ∃ x, x = iAt J k := ⟨_, rfl⟩
      rw [← hx] at c0 c1 c2 hv HLk HLik HHit
      have HX := hide hx
      clear hx
      obtain ⟨id', kd', va, vc, L⟩ := x
      simp only at c0 c1 c2 hv HLk HLik HHit
      have ba := below_al wr (.cells #[.int .i64 id', .string kd', .slice va L.length vc] 38)
      have hba : Below w1.heap.size w1 (wr.alloc (.cells #[.int .i64 id', .string kd', .slice va L.length vc] 38)) := hbel.trans (ba.mono hbel.size)
      cases hs : (id' == id)
      · go_wp2
        go_roundw
        case rel => exact ⟨k + 1, by omega, by go_num, fun j hj => by
          by_cases hjk : j = k
          · rw [hjk, ← HX.out]; simpa using hs
          · exact HNo.out j (by omega), hba⟩
        case measure => simp [intOf]; omega
      · have HH := hide (HHit.out (by simpa using hs))
        go_wp2_with fail
        refine (copyFact_any kd' va vc L _ (hv.below ba) HLik.out HLk.out).mono ?_
        rintro e w2 ⟨a', c', rfl, hv2, hb2⟩
        have hb3 : Below wr.heap.size wr w2 := ba.trans (hb2.mono ba.size)
        have hB2 : Below w.heap.size w w2 := hB.trans (hb3.mono hB.size)
        have hR2 := box_step HRr.out hb3
        obtain ⟨z0, z1, zf0, zf1⟩ := box2_cell hR2
        have hgz := (Array.getElem?_eq_some_iff.1 HRr.out).1
        have hws := hB.size
        clear hb2 ba hba c0 c1 c2 hv
        go_wp2
        refine box2_post hR2 (fun w4 h4 gr => ?_)
        clear z0 z1 zf0 zf1
        obtain ⟨d0, d1, -, -⟩ := box2_cell h4
        exact bodyPost_ret (v := .tuple #[.agg #[.string kd', .slice a' L.length c'], .bool true]) (by simp [results, Tryd.results10, go_sem, d0, d1]) rfl
          ⟨by rw [HH.out]; exact ⟨a', c', rfl, (hv2.grown gr (by simp; omega)).low (by simp; omega)⟩, below_set hB2 gr (by omega)⟩
    · have HH : Hid (facP (J.map It.pl) id = none) := facP_none (fun j hj => HNo.out j (by rw [HJ.out] at hj; omega))
      obtain ⟨z0, z1, zf0, zf1⟩ := box2_cell HRr.out
      go_wp2
      refine box2_post HRr.out (fun w4 h4 gr => ?_)
      clear z0 z1 zf0 zf1
      obtain ⟨d0, d1, -, -⟩ := box2_cell h4
      exact bodyPost_ret (v := .tuple #[.agg #[.string ⟨#[]⟩, .slice none 0 0], .bool false]) (by simp [results, Tryd.results10, go_sem, d0, d1]) rfl
        ⟨by rw [HH.out]; exact ⟨none, 0, rfl, NewV.nil _ _⟩, below_set hB gr (by omega)⟩
end Go.Proofs.YtbellpalomiokadDoor
