/-
  Any rule that is drawn: the model's l9Any, DrawPosVars.
-/
import Derived.Test.YtfgigcdfmkfkjaaJDrawRb
namespace Go.Proofs.Ytfgigcdfmkfkjaa
open Go.RowKit
set_option linter.unusedVariables false
set_option maxRecDepth 100000

/-- any rule was drawn -/
def DrawnN (w : World) (B q : Nat) (e : Ending) (w' : World) : Prop := ∃ (nm : ByteArray) (sal : Int) (vP : Value) (P : List PE) (vC : Value) (C : List C11) (vA : Value) (A : List QE), e = .returned (.agg #[.string nm, .int .i64 sal, vP, vC, vA]) ∧ nm.size ≤ 100 ∧ P.length ≤ 5 ∧ C.length ≤ 2 ∧ A.length ≤ 4 ∧ RlO w.heap.size vP P vC C vA A w' ∧ Cur B w' q ∧ w.grownBy w' (some q)

set_option maxHeartbeats 6400000 in
theorem l9Any_any (B q : Nat) (w : World) (hc : Cur B w q) : Calls Try.prog 79 #[.pointer (some ⟨q, 0, none⟩)] w (DrawnN w B q) := by
  have hq := hc.lt
  have hB := hc.1
  go_enter Try.func79, Try.ntmps79
  go_wp2_with fail
  have G0 := grown_alloc w (.cells #[.string ⟨#[]⟩, .int .i64 0, .slice none 0 0, .slice none 0 0, .slice none 0 0] 49) q
  have HR0 := hide (boxk_new w #[.string ⟨#[]⟩, .int .i64 0, .slice none 0 0, .slice none 0 0, .slice none 0 0] 49)
  have c0 : Cur B (w.alloc (.cells #[.string ⟨#[]⟩, .int .i64 0, .slice none 0 0, .slice none 0 0, .slice none 0 0] 49)) q := hc.keep (World.grownBy_alloc w _ none) (by simp) (by simp)
  have z0 : (w.alloc (.cells #[.string ⟨#[]⟩, .int .i64 0, .slice none 0 0, .slice none 0 0, .slice none 0 0] 49)).heap.size = w.heap.size + 1 := by simp
  generalize w.alloc (.cells #[.string ⟨#[]⟩, .int .i64 0, .slice none 0 0, .slice none 0 0, .slice none 0 0] 49) = w0 at G0 HR0 c0 z0 ⊢
  rw [← z0]
  refine (l1Str_any B q w0.heap.size [⟨#[114, 49]⟩, ⟨#[114, 50]⟩, ⟨#[115, 104, 105, 112]⟩] 3 _ (c0.keep (World.grownBy_alloc w0 _ none) (by simp) (by simp)) (by decide) (by decide) (by omega) (cells_strs w0 9 _)).mono ?_
  rintro e w1 ⟨nm, rfl, hx, c1, g1⟩
  have hnm : nm.size ≤ 100 := by
    simp only [List.mem_cons, List.not_mem_nil, or_false] at hx
    rcases hx with rfl | rfl | rfl <;> decide
  have G1 : w.grownBy w1 (some q) := grown_trans (grown_trans G0 (grown_alloc w0 _ q)) g1
  have HR1 := hide (box_grown (box_alloc HR0.out _) g1 (by omega))
  have z1 : w.heap.size < w1.heap.size := by have := g1.size; simp at this; omega
  clear hx g1 c0 G0 HR0
  go_wp2_with fail
  refine (l9Draw_any B q nm _ c1 hnm).mono ?_
  rintro e w2 ⟨sal, vP, P, vC, C, vA, A, rfl, hP1, hP4, hC1, hA1, hA3, o, c2, g2⟩
  have G2 : w.grownBy w2 (some q) := grown_trans G1 g2
  have HR2 := hide (box_grown HR1.out g2 (by omega))
  have z2 := g2.size
  have D0 : RlW w B q w1.heap.size w2.heap.size #[.string nm, .int .i64 sal, vP, vC, vA] vP P vC C vA A (w2.alloc (.cells #[.string nm, .int .i64 sal, vP, vC, vA] 49)) :=
    ⟨c2.keep (World.grownBy_alloc w2 _ none) (by simp) (by simp), boxk_new w2 _ _, box_alloc HR2.out _, o.rP.alloc _, o.rC.alloc _, o.rA.alloc _, (fun p hp => (o.iP p hp).alloc _), (fun a ha => (o.iA a ha).alloc _), grown_trans G2 (grown_alloc w2 _ q), ⟨hq, z1, by omega⟩, o.sP, o.sC, o.sA, by simp; omega⟩
  obtain ⟨aP, cP, rfl⟩ := own_slice D0.rP
  obtain ⟨aC, cC, rfl⟩ := own_slice D0.rC
  obtain ⟨aA, cA, rfl⟩ := own_slice D0.rA
  obtain ⟨F, HF⟩ : ∃ F, Hid (w2.heap.size = F) := ⟨_, rfl⟩
  obtain ⟨b, Hb⟩ : ∃ b, Hid (w1.heap.size = b) := ⟨_, rfl⟩
  have HD0 := hide D0
  clear G1 HR1 c1 g2 c2 G2 HR2 o D0
  go_wp2_with fail
  rw [HF.out, Hb.out] at HD0
  rw [HF.out]
  clear HF Hb
  generalize w2.alloc (.cells #[.string nm, .int .i64 sal, .slice aP P.length cP, .slice aC C.length cC, .slice aA A.length cA] 49) = w3 at HD0 ⊢
  refine (l1Once_any B q 3 _ HD0.out.cur (by omega) (by omega)).mono ?_
  rintro e w4 ⟨bb, rfl, c4, g4⟩
  have HD := hide (HD0.out.draws c4 g4)
  clear c4 g4 HD0
  have t0 := boxk_cell HD.out.box 0 _ rfl
  have t1 := boxk_cell HD.out.box 1 _ rfl
  have t2 := boxk_cell HD.out.box 2 _ rfl
  have t3 := boxk_cell HD.out.box 3 _ rfl
  have t4 := boxk_cell HD.out.box 4 _ rfl
  cases bb
  · have u0 := boxk_cell HD.out.res 0 _ rfl
    have u1 := boxk_cell HD.out.res 1 _ rfl
    have u2 := boxk_cell HD.out.res 2 _ rfl
    have u3 := boxk_cell HD.out.res 3 _ rfl
    have u4 := boxk_cell HD.out.res 4 _ rfl
    have uf0 := boxk_frozen HD.out.res 0
    have uf1 := boxk_frozen HD.out.res 1
    have uf2 := boxk_frozen HD.out.res 2
    have uf3 := boxk_frozen HD.out.res 3
    have uf4 := boxk_frozen HD.out.res 4
    go_wp2
    refine box5_post HD.out.res (fun w9 h9 gr => ?_)
    clear t0 t1 t2 t3 t4 u0 u1 u2 u3 u4 uf0 uf1 uf2 uf3 uf4
    have d0 := boxk_cell h9 0 _ rfl
    have d1 := boxk_cell h9 1 _ rfl
    have d2 := boxk_cell h9 2 _ rfl
    have d3 := boxk_cell h9 3 _ rfl
    have d4 := boxk_cell h9 4 _ rfl
    exact bodyPost_ret (v := .agg #[.string nm, .int .i64 sal, .slice aP P.length cP, .slice aC C.length cC, .slice aA A.length cA]) (by simp [results, Try.results79, go_sem, d0, d1, d2, d3, d4]) rfl ⟨nm, sal, _, P, _, C, _, A, rfl, hnm, by omega, by omega, by omega, HD.out.done gr⟩
  · go_wp2_with fail
    refine (l9Bend_any w B q b F _ nm sal _ P _ C _ A _ HD.out hnm hP1 hP4 hC1 hA1 hA3).mono ?_
    rintro e w5 ⟨nm', sal', vP', P', vC', C', vA', A', rfl, hn', hp1', hp5', hc2', ha4', D5⟩
    obtain ⟨aP', cP', rfl⟩ := own_slice D5.rP
    obtain ⟨aC', cC', rfl⟩ := own_slice D5.rC
    obtain ⟨aA', cA', rfl⟩ := own_slice D5.rA
    have HD6 : Hid (RlW w B q b F #[.string nm', .int .i64 sal', .slice aP' P'.length cP', .slice aC' C'.length cC', .slice aA' A'.length cA'] (.slice aP' P'.length cP') P' (.slice aC' C'.length cC') C' (.slice aA' A'.length cA') A' (((((w5.setCell ⟨F, 0, none⟩ (.string nm')).setCell ⟨F, 1, none⟩ (.int .i64 sal')).setCell ⟨F, 2, none⟩ (.slice aP' P'.length cP')).setCell ⟨F, 3, none⟩ (.slice aC' C'.length cC')).setCell ⟨F, 4, none⟩ (.slice aA' A'.length cA'))) := ((((D5.setF 0 _).setF 1 _).setF 2 _).setF 3 _).setF 4 _
    have s0 := boxk_cell D5.box 0 _ rfl
    have s1 := boxk_cell D5.box 1 _ rfl
    have s2 := boxk_cell D5.box 2 _ rfl
    have s3 := boxk_cell D5.box 3 _ rfl
    have s4 := boxk_cell D5.box 4 _ rfl
    have sf0 := boxk_frozen D5.box 0
    have sf1 := boxk_frozen D5.box 1
    have sf2 := boxk_frozen D5.box 2
    have sf3 := boxk_frozen D5.box 3
    have sf4 := boxk_frozen D5.box 4
    clear D5 HD t0 t1 t2 t3 t4
    go_upto_region 4 with fail
    generalize ((((w5.setCell ⟨F, 0, none⟩ (.string nm')).setCell ⟨F, 1, none⟩ (.int .i64 sal')).setCell ⟨F, 2, none⟩ (.slice aP' P'.length cP')).setCell ⟨F, 3, none⟩ (.slice aC' C'.length cC')).setCell ⟨F, 4, none⟩ (.slice aA' A'.length cA') = w6 at HD6 ⊢
    clear s0 s1 s2 s3 s4 sf0 sf1 sf2 sf3 sf4
    have t0 := boxk_cell HD6.out.box 0 _ rfl
    have t1 := boxk_cell HD6.out.box 1 _ rfl
    have t2 := boxk_cell HD6.out.box 2 _ rfl
    have t3 := boxk_cell HD6.out.box 3 _ rfl
    have t4 := boxk_cell HD6.out.box 4 _ rfl
    have u0 := boxk_cell HD6.out.res 0 _ rfl
    have u1 := boxk_cell HD6.out.res 1 _ rfl
    have u2 := boxk_cell HD6.out.res 2 _ rfl
    have u3 := boxk_cell HD6.out.res 3 _ rfl
    have u4 := boxk_cell HD6.out.res 4 _ rfl
    have uf0 := boxk_frozen HD6.out.res 0
    have uf1 := boxk_frozen HD6.out.res 1
    have uf2 := boxk_frozen HD6.out.res 2
    have uf3 := boxk_frozen HD6.out.res 3
    have uf4 := boxk_frozen HD6.out.res 4
    go_wp2
    refine box5_post HD6.out.res (fun w9 h9 gr => ?_)
    clear t0 t1 t2 t3 t4 u0 u1 u2 u3 u4 uf0 uf1 uf2 uf3 uf4
    have d0 := boxk_cell h9 0 _ rfl
    have d1 := boxk_cell h9 1 _ rfl
    have d2 := boxk_cell h9 2 _ rfl
    have d3 := boxk_cell h9 3 _ rfl
    have d4 := boxk_cell h9 4 _ rfl
    exact bodyPost_ret (v := .agg #[.string nm', .int .i64 sal', .slice aP' P'.length cP', .slice aC' C'.length cC', .slice aA' A'.length cA']) (by simp [results, Try.results79, go_sem, d0, d1, d2, d3, d4]) rfl ⟨nm', sal', _, P', _, C', _, A', rfl, hn', hp5', hc2', ha4', HD6.out.done gr⟩

/-- what a drawn rule reads as -/
theorem RlO.rd {base : Nat} {vP : Value} {P : List PE} {vC : Value} {C : List C11} {vA : Value} {A : List QE} {W : World} (h : RlO base vP P vC C vA A W) (nm : ByteArray) (sal : Int) : ∃ x : RE, x.nm = nm ∧ x.sal = sal ∧ vP = .slice x.aP x.nP x.cP ∧ vC = .slice x.aC x.nC x.cC ∧ vA = .slice x.aA x.nA x.cA ∧ x.P = P ∧ x.C = C ∧ x.A = A ∧ RdRule W x := by
  obtain ⟨aP, cP, eP, rP, -⟩ := rdK_owns PE.len (by decide) h.rP
  obtain ⟨aC, cC, eC, rC, -⟩ := rdK_owns C11.len (by decide) h.rC
  obtain ⟨aA, cA, eA, rA, -⟩ := rdK_owns QE.len (by decide) h.rA
  refine ⟨⟨nm, sal, aP, P.length, cP, P, aC, C.length, cC, C, aA, A.length, cA, A⟩, rfl, rfl, eP, eC, eA, rfl, rfl, rfl, ⟨⟨rP, fun i hi => ?_⟩, rC, ⟨rA, fun i hi => ?_⟩, rfl, rfl, rfl⟩⟩
  · exact rdK_of_row A5.len (by decide) (h.iP _ (by rw [eAt_in hi]; exact List.getElem_mem _))
  · exact rdK_of_row X11.len (by decide) (h.iA _ (by rw [eAt_in hi]; exact List.getElem_mem _))
end Go.Proofs.Ytfgigcdfmkfkjaa
