/-
  The tested program's map of items by their facts' texts: what it has, and how many.
-/
import Derived.Test.YtaflokfgbmlmaadDoorJoined1
import Derived.Test.YtaflokfgbmlmaadDoorJFactInj
import Derived.Test.YtaflokfgbmlmaadDoorJFactTI
import Derived.Maps.OwnSet
import Derived.StringKeys
import Derived.Deep.RegionWith
namespace Go.Proofs.YtaflokfgbmlmaadDoor
open Go.RowKit
set_option linter.unusedVariables false

/-- an item in the map reads as its Id -/
def rI (v : Value) : Option (DataW Unit × List MemPlace) := match v with
  | .agg cs => match cs.toList with
    | [.int .i64 id, .string _, .slice _ _ _] => some (.lit (.int .i64 id), [])
    | _ => none
  | _ => none
theorem rI_mk (id : Int) (s : ByteArray) (a : Option Addr) (l c : Nat) : rI (.agg #[.int .i64 id, .string s, .slice a l c]) = some (.lit (.int .i64 id), []) := rfl
/-- what reads so is an item's three cells -/
theorem rI_inv {v : Value} {id : Int} {ps : List MemPlace} (h : rI v = some (.lit (.int .i64 id), ps)) : ∃ s a l c, v = .agg #[.int .i64 id, .string s, .slice a l c] := by
  unfold rI at h
  split at h
  · rename_i cs
    split at h
    · rename_i id' s a l c e
      simp only [Option.some.injEq, Prod.mk.injEq, DataW.lit.injEq, Lit.int.injEq] at h
      obtain ⟨⟨-, rfl⟩, -⟩ := h
      exact ⟨s, a, l, c, by rw [← Array.toList_inj.1 (show cs.toList = (#[.int .i64 _, .string s, .slice a l c] : Array Value).toList from e)]⟩
    · cases h
  · cases h
def It.tx (x : It) : List UInt8 := (factT x.kd x.L).data.toList
/-- no two texts of the first k are the same -/
def Texts (J : List It) (k : Nat) : Prop := ∀ i j, i < j → j < k → (iAt J i).tx ≠ (iAt J j).tx
structure MapOf (J : List It) (k : Nat) (D : DataW Unit) : Prop where
  has : ∀ l : List UInt8, Maps.has D (.string l) = true ↔ ∃ j, j < k ∧ (iAt J j).tx = l
  idAt : Texts J k → ∀ j, j < k → ∀ z, D.atKey (.string (iAt J j).tx) z = .lit (.int .i64 (iAt J j).id)
  le : Maps.size D ≤ k
  all : Maps.size D = k ↔ Texts J k
theorem MapOf.zero (J : List It) : MapOf J 0 (.map []) :=
  ⟨fun l => ⟨fun h => by simp [Maps.has] at h, fun ⟨j, hj, _⟩ => absurd hj (Nat.not_lt_zero _)⟩, fun _ j hj => absurd hj (Nat.not_lt_zero _), Nat.le_refl _, ⟨fun _ i j _ hj => absurd hj (Nat.not_lt_zero _), fun _ => rfl⟩⟩
theorem MapOf.step {J : List It} {k : Nat} {D : DataW Unit} (h : MapOf J k D) (hT : Maps.Tidy D) : MapOf J (k + 1) (D.put (.string (iAt J k).tx) (.lit (.int .i64 (iAt J k).id))) := by
  have hk : WideAt.IsKeyLit (.string (iAt J k).tx) := trivial
  have hnew : Maps.has D (.string (iAt J k).tx) = true ↔ ¬ ∀ j, j < k → (iAt J j).tx ≠ (iAt J k).tx := by
    rw [h.has]
    constructor
    · rintro ⟨j, hj, e⟩ hn; exact hn j hj e
    · intro hn
      by_cases he : ∃ j, j < k ∧ (iAt J j).tx = (iAt J k).tx
      · exact he
      · exact absurd (fun j hj e => he ⟨j, hj, e⟩) hn
  have hsz := Maps.size_put (k := .string (iAt J k).tx) hT (.lit (.int .i64 (iAt J k).id))
  have hle := h.le
  refine ⟨fun l => ?_, fun ht j hj z => ?_, ?_, ?_⟩
  · by_cases e : l = (iAt J k).tx
    · subst e
      rw [Maps.has_put_same hT.isMap hk]
      exact ⟨fun _ => ⟨k, by omega, rfl⟩, fun _ => rfl⟩
    · rw [Maps.has_put_other (by intro h; apply e; injection h), h.has]
      constructor
      · rintro ⟨j, hj, e2⟩; exact ⟨j, by omega, e2⟩
      · rintro ⟨j, hj, e2⟩
        have : j ≠ k := fun e3 => e (by rw [← e2, e3])
        exact ⟨j, by omega, e2⟩
  · by_cases e : j = k
    · subst e; exact Maps.atKey_put_same hT.isMap hk _ _
    · have hjk : (iAt J j).tx ≠ (iAt J k).tx := ht j k (by omega) (by omega)
      rw [Maps.atKey_put_other (by intro h; apply hjk; injection h)]
      exact h.idAt (fun a b hab hb => ht a b hab (by omega)) j (by omega) z
  · rw [hsz]; split <;> omega
  · rw [hsz]
    by_cases hh : Maps.has D (.string (iAt J k).tx) = true
    · rw [if_pos hh]
      constructor
      · intro e; omega
      · intro ht
        exact absurd (fun j hj => ht j k hj (by omega)) (hnew.1 hh)
    · rw [if_neg hh]
      constructor
      · intro e a b hab hb
        by_cases eb : b = k
        · subst eb
          intro e2
          exact hh ((h.has _).2 ⟨a, hab, e2⟩)
        · exact h.all.1 (by omega) a b hab (by omega)
      · intro ht
        have := h.all.2 (fun a b hab hb => ht a b hab (by omega))
        omega
/-- facts that are right are told apart by their texts -/
theorem texts_dist {J : List It} (h : ∀ k, k < J.length → factB (iAt J k).kd (iAt J k).L = true) : Texts J J.length ↔ Dist J := by
  have key : ∀ i j, i < J.length → j < J.length → ((iAt J i).tx = (iAt J j).tx ↔ (iAt J i).same (iAt J j).kd (iAt J j).L = true) := fun i j hi hj => by
    have := sameF_text (h i hi) (h j hj)
    unfold It.same It.tx
    rw [this, decide_eq_true_iff]
    exact ⟨fun e => ByteArray.ext (Array.toList_inj.1 e), fun e => by rw [e]⟩
  constructor
  · intro ht i j hij hj
    have := ht i j hij hj
    rw [Ne, key i j (by omega) hj] at this
    simpa using this
  · intro hd i j hij hj e
    rw [key i j (by omega) hj, hd i j hij hj] at e
    cases e
theorem tx_len {kd : ByteArray} {L : List V3} (h : factB kd L = true) : (factT kd L).size ≤ 200 := by
  obtain ⟨n1, h5, o1⟩ := factB_open h
  have h1 := name_size n1
  have h2 := joinV_le o1
  have e : (factT kd L).size = (factT kd L).data.toList.length := by rw [Array.length_toList]; rfl
  have e2 : kd.data.toList.length = kd.size := by rw [Array.length_toList]; rfl
  rw [e, factT_list h]
  simp only [List.length_append, List.length_cons, List.length_nil]
  omega

theorem lawT : Maps.Keyed Tryd.prog 9 := Maps.string_keyed Tryd.underlying9
theorem run_makeMapN (n : Nat) (W : World) (h : n ≤ 1048580) : (Instr.makeMap 73 (some (.int .i64 (n : Int)))).run Tryd.prog W = .ok (.map (some W.heap.size)) (W.alloc (.map #[] 0)) := by
  simp [Instr.makeMap, run_underlying Tryd.underlying73, asInt, newObj, Result.andThen]
  rfl

theorem box_drw {w w' : World} {R : Nat} {o : Obj} (h : w.heap[R]? = some o) (hb : Below w.drew.heap.size w.drew w') : w'.heap[R]? = some o := box_step (w := w.drew) h hb
theorem ownsMap_below {w w' : World} {B n : Nat} {D : DataW Unit} (h : w.ownsMap Tryd.prog 9 rI B n D) (hb : Below w.heap.size w w') : w'.ownsMap Tryd.prog 9 rI B n D := by
  have hl := h.lt
  obtain ⟨es, c, h1, r⟩ := h
  exact ⟨es, c, by rw [hb.block B hl]; exact h1, r⟩
theorem ownsMap_drew {w w' : World} {B n : Nat} {D : DataW Unit} (h : w.ownsMap Tryd.prog 9 rI B n D) (hb : Below w.drew.heap.size w.drew w') : w'.ownsMap Tryd.prog 9 rI B n D := ownsMap_below (w := w.drew) h hb

set_option maxRecDepth 100000 in
set_option maxHeartbeats 6400000 in
theorem byText_any (a : Option Addr) (n cap : Nat) (J : List It) (w : World) (hr : RdI w a J) (hJ : J.length = n) (hn : n ≤ 1000) (hok : ∀ i, i < J.length → factB (iAt J i).kd (iAt J i).L = true) (hs : ∀ i, i < J.length → okI (iAt J i)) (ht : Tab w) :
    Calls Tryd.prog 42 #[.slice a n cap] w fun e w' => ∃ B D, e = .returned (.map (some B)) ∧ w'.ownsMap Tryd.prog 9 rI B n D ∧ MapOf J n D ∧ Below w.heap.size w w' := by
  have HJ := hide hJ
  have HOk := hide hok
  have HS := hide hs
  have HTab := hide ht
  clear hJ hok hs ht
  have hmm := fun W => run_makeMapN n W (by omega)
  have b0 := below_al w (.map #[] 0)
  have ho0 := World.ownsMap_made w Tryd.prog 9 rI
  have hz0 : w.heap.size < (w.alloc (.map #[] 0)).heap.size := by simp
  go_enter Tryd.func42, Tryd.ntmps42
  go_wp2
  generalize w.alloc (.map #[] 0) = w1 at b0 ho0 hz0 ⊢
  go_loopw [11] (fun i wr => ∃ (k : Nat) (D : DataW Unit), k ≤ n ∧ i = .int .i64 k ∧ wr.ownsMap Tryd.prog 9 rI w.heap.size k D ∧ MapOf J k D ∧ Below w.heap.size w wr ∧ w.heap.size < wr.heap.size) (fun i _ => n - (intOf i).toNat)
  case atStart => exact ⟨0, .map [], Nat.zero_le _, rfl, ho0, MapOf.zero J, b0, hz0⟩
  case round =>
    clear b0 ho0 hz0
    obtain ⟨k, D, hk, rfl, hown, hmap, hbel, hsz⟩ := hrel
    have HMap := hide hmap
    have HOwn := hide hown
    clear hmap hown
    by_cases hlt : k < n
    · obtain ⟨b2, o2, e2, hbw2, hc2⟩ := (hr.below hbel).open (by rw [HJ.out]; omega)
      obtain ⟨c0, c1, c2, hv⟩ := hc2 k (by rw [HJ.out]; exact hlt)
      have HOkk := hide (HOk.out k (by rw [HJ.out]; exact hlt))
      have HSk := hide (HS.out k (by rw [HJ.out]; exact hlt))
      have HStep := hide (HMap.out.step (HOwn.out.tidy lawT))
      clear hc2
      subst e2
      obtain ⟨x, hx⟩ : ∃ x, x = iAt J k := ⟨_, rfl⟩
      rw [← hx] at c0 c1 c2 hv HOkk HSk HStep
      clear hx
      obtain ⟨id, kd, va, vc, L⟩ := x
      simp only [It.tx] at c0 c1 c2 hv HOkk HSk HStep
      have ba := below_al wr (.cells #[.int .i64 id, .string kd, .slice va L.length vc] 54)
      have hBox := box_new wr (.int .i64 id) (.string kd) (.slice va L.length vc) 54
      have hB1 : Below w.heap.size w (wr.alloc (.cells #[.int .i64 id, .string kd, .slice va L.length vc] 54)) := hbel.trans (ba.mono hbel.size)
      have ho1 := ownsMap_below HOwn.out ba
      have hv1 := hv.below ba
      have hz1 : w.heap.size < (wr.alloc (.cells #[.int .i64 id, .string kd, .slice va L.length vc] 54)).heap.size := Nat.lt_of_lt_of_le hsz ba.size
      have hl5 : L.length ≤ 1048580 := by have := (factB_open HOkk.out).2.1; omega
      go_wp2_with fail
      generalize wr.alloc (.cells #[.int .i64 id, .string kd, .slice va L.length vc] 54) = w2 at hBox hB1 ho1 hv1 hz1 ba ⊢
      have HBox := hide hBox
      have HO1 := hide ho1
      obtain ⟨x0, x1, x2, -, -, -⟩ := box_cell hBox
      have hvd : RdV w2.drew va L := hv1.heap rfl
      have htd : Tab w2.drew := HTab.out.later hB1.drew (Nat.le_refl _)
      clear ba hBox ho1 c0 c1 c2 hv hv1
      go_region_with (first | (go_at_call 43; refine (implFactText_any kd va vc L _ HSk.out.1 hvd HSk.out.2.2 hl5 htd).mono ?_; rintro e w3 ⟨rfl, hb3⟩; obtain ⟨y0, y1, y2, -, -, -⟩ := box_cell (box_drw HBox.out hb3); obtain ⟨w4, hrun4, hown4, hg4⟩ := (ownsMap_drew HO1.out hb3).update (t := 73) lawT Tryd.underlying73 (by unfold maxLen; omega) (Go.WideMaps.keyOf_string_mk Tryd.underlying9 (s := factT kd L) (by have := tx_len HOkk.out; unfold maxLen; omega)) (rI_mk id kd va L.length vc)))
      all_goals
        have HOwn4 := hide hown4
        have hb3' : Below w2.heap.size w2 w3 := below_dr hb3
        have B3 : Below w.heap.size w w3 := hB1.trans (hb3'.mono hB1.size)
        have B4 : Below w.heap.size w w4 := B3.grown hg4 B3.size (fun k hk => by cases hk; exact Nat.le_refl _)
        have hz4 : w.heap.size < w4.heap.size := Nat.lt_of_lt_of_le hz1 (Nat.le_trans hb3'.size hg4.size)
        clear hown4 hg4 hrun4 hb3 hb3' y0 y1 y2 x0 x1 x2 B3
        go_wp2
        go_roundw
        case rel => exact ⟨k + 1, _, by omega, by go_num, HOwn4.out, HStep.out, B4, hz4⟩
        case measure => simp [intOf]; omega
    · obtain rfl : k = n := by omega
      go_wp2
      go_ret
      exact ⟨_, D, rfl, HOwn.out, HMap.out, hbel⟩
end Go.Proofs.YtaflokfgbmlmaadDoor
