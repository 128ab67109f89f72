/-
  The contract of what Assert is asked: some store and some fact.
-/
import Derived.Test.YtaflokfgbmlmaadDoorJDrawKd
namespace Go.Proofs.YtaflokfgbmlmaadDoor
open Go.RowKit
set_option linter.unusedVariables false

/-- two blocks of two cells are written, nothing else turns -/
theorem two_post {P : Program} {f : Func} {Q : Ending → World → Prop} {x : Exit} {act : Act} {w : World} {p q : Nat} {c0 c1 a b d0 d1 e g : Value} {T U : TypeId} (h : w.heap[p]? = some (.cells #[c0, c1] T (0, 0))) (hq : w.heap[q]? = some (.cells #[d0, d1] U (0, 0))) (hne : p < q)
    (k : ∀ w2, w2.heap[p]? = some (.cells #[a, b] T (0, 0)) → w2.heap[q]? = some (.cells #[e, g] U (0, 0)) → (Below p w w2 ∧ ∀ y, y ≠ p → y ≠ q → y < w.heap.size → w2.heap[y]? = w.heap[y]?) → bodyPost P f Q x act w2) :
    bodyPost P f Q x act ((((w.setCell ⟨p, 0, none⟩ a).setCell ⟨p, 1, none⟩ b).setCell ⟨q, 0, none⟩ e).setCell ⟨q, 1, none⟩ g) := by
  obtain ⟨h1, g1⟩ := box2_set h a b
  have hq1 := box_grown hq g1 (by omega)
  obtain ⟨h2, g2⟩ := box2_set hq1 e g
  refine k _ (box_grown h1 g2 (by omega)) h2 ⟨((Below.refl p w).grown g1 (Nat.le_of_lt (Array.getElem?_eq_some_iff.1 h).1) (fun k hk => by cases hk; exact Nat.le_refl _)).grown g2 (Nat.le_of_lt (Nat.lt_of_lt_of_le (Array.getElem?_eq_some_iff.1 h).1 g1.size)) (fun k hk => by cases hk; omega), fun y h3 h4 h5 => ?_⟩
  rw [g2.block y (Nat.lt_of_lt_of_le h5 g1.size) (fun e => h4 (Option.some.inj e)), g1.block y h5 (fun e => h3 (Option.some.inj e))]

/-- some store and some fact were drawn -/
def DrawnSF (w : World) (e : Ending) (w' : World) : Prop := ∃ (va : Option Addr) (vc : Nat) (nx : Int) (K : List It) (kd : ByteArray) (b : Option Addr) (cb : Nat) (L : List V3), e = .returned (.tuple #[.agg #[.slice va K.length vc, .int .i64 nx], .agg #[.string kd, .slice b L.length cb]]) ∧ K.length ≤ 41 ∧ (∀ x ∈ K.map It.pl, SmP x) ∧ kd.size ≤ 21 ∧ L.length ≤ 8 ∧ (∀ u ∈ L, u.S.size ≤ 21) ∧ (∀ i, i < K.length → LieV (iAt K i).a (iAt K i).L.length (iAt K i).cap) ∧ LieV b L.length cb ∧ RdI w' va K ∧ RdV w' b L ∧ Below w.heap.size w w'
set_option maxRecDepth 100000 in
set_option maxHeartbeats 1600000 in
theorem drawAssert_any (a : Option Addr) (cap : Nat) (code : List UInt8) (w : World) (hr : Rd w a code) (hn : code.length ≤ 1048576) :
    Calls Tryd.prog 21 #[.slice a code.length cap] w (DrawnSF w) := by
  go_enter Tryd.func21, Tryd.ntmps21
  go_wp2_with fail
  have b1 := below_al w (.cells #[.slice none 0 0, .int .i64 0] 29)
  have b2 := b1.alloc b1.size (.cells #[.string ⟨#[]⟩, .slice none 0 0] 41)
  have r1 := box_old (boxk_new w #[.slice none 0 0, .int .i64 0] 29) (by simp) (.cells #[.string ⟨#[]⟩, .slice none 0 0] 41)
  have r2 := boxk_new (w.alloc (.cells #[.slice none 0 0, .int .i64 0] 29)) #[.string ⟨#[]⟩, .slice none 0 0] 41
  have z1 : ((w.alloc (.cells #[.slice none 0 0, .int .i64 0] 29)).alloc (.cells #[.string ⟨#[]⟩, .slice none 0 0] 41)).heap.size = w.heap.size + 1 + 1 := by simp
  simp only [World.size_alloc] at r2
  generalize (w.alloc (.cells #[.slice none 0 0, .int .i64 0] 29)).alloc (.cells #[.string ⟨#[]⟩, .slice none 0 0] 41) = w0 at b2 r1 r2 z1 ⊢
  clear b1
  refine (l1New_any w.heap.size a cap code w0 (hr.toB.below b2) hn b2.size).mono ?_
  rintro e w1 ⟨rfl, c1, g1⟩
  rw [z1] at c1 ⊢
  have q1 := c1.lt
  have R1 := hide (show w1.heap[w.heap.size]? = _ from (g1.block _ (by omega) (by simp)).trans r1)
  have Q1 := hide (show w1.heap[w.heap.size + 1]? = _ from (g1.block _ (by omega) (by simp)).trans r2)
  have B1 : Below w.heap.size w w1 := b2.trans ((((Below.refl _ _).grown g1 (Nat.le_refl _) (fun k hk => by cases hk))).mono b2.size)
  clear r1 r2 b2 g1
  go_wp2_with fail
  refine (l4Any_any w.heap.size (w.heap.size + 1 + 1) w1 c1).mono ?_
  rintro e w2 ⟨va, vc, nx, K, rfl, hK, hsm, hwv, c2, g2⟩
  have R2 := hide (box_grown R1.out g2 (by omega))
  have Q2 := hide (box_grown Q1.out g2 (by omega))
  have B2 : Below w.heap.size w w2 := B1.grown g2 B1.size (fun k hk => by cases hk; omega)
  have s2 := g2.size
  have HSm := hide hsm
  clear R1 Q1 g2 B1 c1 hsm
  go_wp2_with fail
  refine (l3Any_any w.heap.size (w.heap.size + 1 + 1) w2 c2).mono ?_
  rintro e w3 ⟨kd, v, L, rfl, hL, hkd, hsL, o3, c3, g3⟩
  have R3 := hide (box_grown R2.out g3 (by omega))
  have Q3 := hide (box_grown Q2.out g3 (by omega))
  have B3 : Below w.heap.size w w3 := B2.grown g3 B2.size (fun k hk => by cases hk; omega)
  have HW := hide (hwv.drew g3 (by omega))
  have HSL := hide hsL
  have HO := hide o3
  obtain ⟨b, cb, hv, -, -, -, -⟩ := rdV_owns o3
  subst hv
  clear R2 Q2 g3 B2 c2 hwv hsL o3
  obtain ⟨r0, r1, rf0, rf1⟩ := box2_cell R3.out
  obtain ⟨t0, t1, tf0, tf1⟩ := box2_cell Q3.out
  have HLb := hide (lieOf HO.out)
  go_wp2
  refine two_post R3.out Q3.out (by omega) (fun w4 h4 q4 gr1 => ?_)
  clear r0 r1 rf0 rf1 t0 t1 tf0 tf1
  obtain ⟨d0, d1, -, -⟩ := box2_cell h4
  obtain ⟨e0, e1, -, -⟩ := box2_cell q4
  have hw4 : ∀ x, w.heap.size + 1 + 1 ≤ x → x < w3.heap.size → w4.heap[x]? = w3.heap[x]? := fun x h1 h2 => gr1.2 x (by omega) (by omega) h2
  have rK := (HW.out.hi (w' := w4) (fun x h1 h2 => hw4 x (by omega) h2)).rd
  obtain ⟨b', cb', hv', rL, -, -, -⟩ := rdV_owns (ownsRow_sameB (w' := w4) HO.out (fun k e => hw4 k (by have := (HO.out.lt k e).1; omega) (HO.out.lt k e).2))
  obtain ⟨rfl, -⟩ : b = b' ∧ cb = cb' := by simpa using hv'
  exact bodyPost_ret (v := .tuple #[.agg #[.slice va K.length vc, .int .i64 nx], .agg #[.string kd, .slice b L.length cb]]) (by simp [results, Tryd.results21, go_sem, d0, d1, e0, e1]) rfl ⟨va, vc, nx, K, kd, b, cb, L, rfl, hK, HSm.out, hkd, hL, HSL.out, HW.out.lies, HLb.out, rK, rL, B3.trans gr1.1⟩
end Go.Proofs.YtaflokfgbmlmaadDoor
