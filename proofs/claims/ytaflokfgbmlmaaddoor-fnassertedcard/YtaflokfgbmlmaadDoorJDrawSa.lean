/-
  The draw of any store: some store of readable items with short texts.
-/
import Derived.Test.YtaflokfgbmlmaadDoorJDrawSt
import Derived.Test.YtaflokfgbmlmaadDoorJDrawG
import Derived.Deep.AppendLies
import Derived.Deep.DeepCutAuto
namespace Go.Proofs.YtaflokfgbmlmaadDoor
open Go.RowKit
set_option linter.unusedVariables false

/-- a store's items, each list in a row of its own, all of it above lo -/
structure WV (w : World) (lo n : Nat) (va : Option Addr) (vc : Nat) (K : List It) : Prop where
  own : w.ownsRow lo 54 3 (.slice va n vc) n (rowOf It.cells K)
  vals : ∀ i, i < K.length → (iAt K i).L ≠ [] → ∃ q, (iAt K i).a = some ⟨q, 0, none⟩ ∧ lo ≤ q ∧ OwnV w q (iAt K i).cap (iAt K i).L
  lies : ∀ i, i < K.length → LieV (iAt K i).a (iAt K i).L.length (iAt K i).cap
theorem WV.hi {w w' : World} {lo n vc : Nat} {va : Option Addr} {K : List It} (h : WV w lo n va vc K) (hk : ∀ q, lo ≤ q → q < w.heap.size → w'.heap[q]? = w.heap[q]?) : WV w' lo n va vc K := by
  refine ⟨ownsRow_sameB h.own (fun k e => ?_), fun i hi hne => ?_, h.lies⟩
  · have := h.own.lt k e
    exact hk k this.1 this.2
  · obtain ⟨q, e, h1, o⟩ := h.vals i hi hne
    refine ⟨q, e, h1, ownsRow_sameB o (fun k e4 => ?_)⟩
    have e5 : q = k := Option.some.inj e4
    rw [← e5]; exact hk q h1 o.lt
theorem WV.rd {w : World} {lo n vc : Nat} {va : Option Addr} {K : List It} (h : WV w lo n va vc K) : RdI w va K :=
  (rdI_owns h.own (fun i hi => by
    by_cases e : (iAt K i).L = []
    · rw [e]; exact RdV.nil _ _
    · obtain ⟨q, e, -, o⟩ := h.vals i hi e; rw [e]; exact o.rd)).1
theorem WV.of {w : World} {lo n vc : Nat} {va : Option Addr} {K : List It} (h : HV w lo n va vc K) (hn : K.length = n) : WV w lo n va vc K := by
  rcases h with ⟨rfl, rfl, rfl, rfl⟩ | ⟨g, rfl, o⟩
  · exact ⟨World.ownsRow_nil _ _ _ _, fun i hi => absurd hi (Nat.not_lt_zero _), fun i hi => absurd hi (Nat.not_lt_zero _)⟩
  · subst hn
    exact ⟨ownsRow_up o.own o.low, fun i hi hne => by obtain ⟨q, e, h1, -, o2⟩ := o.vals i hi hne; exact ⟨q, e, h1, o2⟩, o.lies⟩
/-- a store on the way that is only read from now on -/
structure SE (w0 : World) (B q p : Nat) (va : Option Addr) (vc : Nat) (nx : Int) (K : List It) (W : World) : Prop where
  cur : Cur B W q
  box : W.heap[p]? = some (.cells #[.slice va K.length vc, .int .i64 nx] 29 (0, 0))
  row : WV W (w0.heap.size + 1) K.length va vc K
  gr : w0.grownBy W (some q)
  far : q < w0.heap.size ∧ w0.heap.size < p
  res : W.heap[w0.heap.size]? = some (.cells #[.slice none 0 0, .int .i64 0] 29 (0, 0))
  small : ∀ x ∈ K.map It.pl, SmP x
  len : K.length ≤ 41
theorem SD.se {w0 W : World} {B q p vc : Nat} {va : Option Addr} {nx : Int} {K : List It} (h : SD w0 B q p va vc nx K W) : SE w0 B q p va vc nx K W := ⟨h.cur, h.box, .of h.row rfl, h.gr, h.far, h.res, h.small, by have := h.len; omega⟩
theorem SD.next {w0 W : World} {B q p vc : Nat} {va : Option Addr} {nx : Int} {K : List It} (h : SD w0 B q p va vc nx K W) (nx' : Int) (h0 : 0 ≤ nx') : SD w0 B q p va vc nx' K (W.setCell ⟨p, 1, none⟩ (.int .i64 nx')) := by
  obtain ⟨hb, gr⟩ := box2_set1 h.box (.int .i64 nx')
  have far := h.far
  have hB := h.cur.1
  exact ⟨h.cur.keep gr (by simp; omega) (fun k hk => by cases hk; omega), hb, h.row.imp id (fun ⟨g, e, o⟩ => ⟨g, e, o.other h.box (fun x hx hne => gr.block x hx (fun e2 => hne (Option.some.inj e2)))⟩), grown_more h.gr gr (fun k hk => by cases hk; omega), far, box_grown h.res gr (by omega), h.small, h.len, h0⟩
/-- an item appended, and the row stored into the store -/
theorem SD.appended {w0 W : World} {B q p vc : Nat} {va : Option Addr} {nx : Int} {K : List It} (h : SD w0 B q p va vc nx K W) {W' : World} {g cap H : Nat} {x : It} (hx : SmP x.pl) (hxl : LieV x.a x.L.length x.cap) (hv : x.L ≠ [] → ∃ r, x.a = some ⟨r, 0, none⟩ ∧ w0.heap.size + 1 ≤ r ∧ (Value.slice va K.length vc).ownBlock ≠ some r ∧ OwnV W r x.cap x.L)
    (ho : W'.ownsRow (w0.heap.size + 1) 54 3 (.slice (some ⟨g, 0, none⟩) (K.length + 1) cap) (K.length + 1) (rowOf It.cells K ++ x.cells)) (hg : W.grownBy W' (Value.slice va K.length vc).ownBlock) (hat : (Value.slice va K.length vc).ownBlock = some g ∨ g = H) (hH : W.heap.size = H) :
    W'.cell? ⟨p, 0, none⟩ = some (.slice va K.length vc) ∧ W'.frozen? ⟨p, 0, none⟩ = false ∧ SE w0 B q p (some ⟨g, 0, none⟩) cap nx (K ++ [x]) (W'.setCell ⟨p, 0, none⟩ (.slice (some ⟨g, 0, none⟩) (K.length + 1) cap)) := by
  have far := h.far
  have hB := h.cur.1
  have hpl := h.lt
  have hob : ∀ r, (Value.slice va K.length vc).ownBlock = some r → w0.heap.size + 1 ≤ r ∧ r ≠ p := fun r e => by
    rcases h.row with ⟨-, -, rfl, -⟩ | ⟨g0, rfl, o⟩
    · cases e
    · have e2 : g0 = r := Option.some.inj e
      rw [← e2]
      exact ⟨o.low, fun e3 => row_ne_box o.own h.box (by decide) e3.symm⟩
  have hgp : g ≠ p := by
    rcases hat with e | e
    · exact (hob g e).2
    · omega
  have hb : W'.heap[p]? = some (.cells #[.slice va K.length vc, .int .i64 nx] 29 (0, 0)) := by rw [hg.block p hpl (fun e => (hob p e.symm).2 rfl)]; exact h.box
  obtain ⟨c0, -, f0, -⟩ := box2_cell hb
  obtain ⟨hb2, gr2⟩ := box2_set0 hb (.slice (some ⟨g, 0, none⟩) (K.length + 1) cap)
  have hlen : (K ++ [x]).length = K.length + 1 := by simp
  refine ⟨c0, f0, ?_, by rw [hlen]; exact hb2, ?_, ?_, far, ?_, ?_, by rw [hlen]; have := h.len; omega⟩
  · exact (h.cur.keep hg (fun e => by have := (hob q e).1; omega) (fun k hk => by have := (hob k hk).1; omega)).keep gr2 (by simp; omega) (fun k hk => by cases hk; omega)
  · rw [hlen]
    refine ⟨?_, fun i hi hne => ?_, fun i hi => ?_⟩
    · have := ho.kept gr2 (.inr (by simp [Value.ownBlock]; exact hgp))
      rwa [rowI_app] at this
    · have keep : ∀ r c (L : List V3), OwnV W r c L → (Value.slice va K.length vc).ownBlock ≠ some r → OwnV (W'.setCell ⟨p, 0, none⟩ (.slice (some ⟨g, 0, none⟩) (K.length + 1) cap)) r c L := fun r c L o hr => by
        have hrp : r ≠ p := fun e3 => row_ne_box o h.box (by decide) e3.symm
        refine ownsRow_sameB o (fun k e4 => ?_)
        have e5 : r = k := Option.some.inj e4
        rw [← e5, gr2.block r (Nat.lt_of_lt_of_le o.lt hg.size) (fun e6 => hrp (Option.some.inj e6)), hg.block r o.lt (fun e6 => hr e6.symm)]
      by_cases hik : i < K.length
      · have e1 : iAt (K ++ [x]) i = iAt K i := iAt_app_lt hik
        rw [e1] at hne ⊢
        rcases h.row with ⟨-, rfl, -, -⟩ | ⟨g0, rfl, o⟩
        · exact absurd hik (Nat.not_lt_zero _)
        · obtain ⟨r, e, h1, h2, o2⟩ := o.vals i hik hne
          exact ⟨r, e, h1, keep _ _ _ o2 (fun e3 => h2 (Option.some.inj e3).symm)⟩
      · have e0 : i = K.length := by rw [hlen] at hi; omega
        have e1 : iAt (K ++ [x]) i = x := by rw [e0]; exact iAt_app_eq K x
        rw [e1] at hne ⊢
        obtain ⟨r, e, h1, h2, o2⟩ := hv hne
        exact ⟨r, e, h1, keep _ _ _ o2 h2⟩
    · by_cases hik : i < K.length
      · rw [iAt_app_lt hik]
        rcases h.row with ⟨-, rfl, -, -⟩ | ⟨g0, rfl, o⟩
        · exact absurd hik (Nat.not_lt_zero _)
        · exact o.lies i hik
      · have e0 : i = K.length := by rw [hlen] at hi; omega
        rw [e0, iAt_app_eq K x]
        exact hxl
  · exact grown_more (grown_more h.gr hg (fun k hk => by have := (hob k hk).1; omega)) gr2 (fun k hk => by cases hk; omega)
  · exact box_grown (by rw [hg.block _ (Array.getElem?_eq_some_iff.1 h.res).1 (fun e => by have := (hob _ e.symm).1; omega)]; exact h.res) gr2 (by omega)
  · rw [List.map_append]
    intro y hy
    rcases List.mem_append.1 hy with hy | hy
    · exact h.small y hy
    · simp only [List.map_cons, List.map_nil, List.mem_cons, List.not_mem_nil, or_false] at hy
      rw [hy]; exact hx
theorem lieOf {w : World} {base n c size : Nat} {T : TypeId} {a : Option Addr} {xs : List Value} (o : w.ownsRow base T size (.slice a n c) n xs) : LieV a n c := by
  rcases o.2 with ⟨h, h0⟩ | ⟨g, cp, cur, e, hg, hh, hnc, hcm, -⟩
  · simp only [Value.slice.injEq] at h
    exact .inl ⟨h.1, h0, h.2.2⟩
  · simp only [Value.slice.injEq] at e
    exact .inr ⟨g, 0, e.1, by omega, by omega⟩
/-- a fact's row that was just drawn lies apart from what was there -/
theorem valrow {w : World} {p : Obj} {base lo n vc : Nat} {va a : Option Addr} {c : Nat} {L : List V3} (o : w.ownsRow base 85 3 (.slice a L.length c) L.length (cells3 L)) (hold : ∀ r, (Value.slice va n vc).ownBlock = some r → r < base) (hb : lo ≤ base) :
    L ≠ [] → ∃ r, a = some ⟨r, 0, none⟩ ∧ lo ≤ r ∧ (Value.slice va n vc).ownBlock ≠ some r ∧ OwnV (w.alloc p) r c L := fun hne => by
  rcases o.2 with ⟨-, h0⟩ | ⟨g, cp, cur, e, hg, rest⟩
  · exact absurd (List.eq_nil_of_length_eq_zero h0) hne
  · have e2 := e
    simp only [Value.slice.injEq] at e2
    obtain ⟨rfl, -, rfl⟩ := e2
    exact ⟨g, rfl, by omega, fun e3 => by have := hold g e3; omega, (OwnV.of o).later (below_al w p)⟩
/-- some store was drawn: it reads -/
def DrawnT (w : World) (B q : Nat) (e : Ending) (w' : World) : Prop := ∃ (va : Option Addr) (vc : Nat) (nx : Int) (K : List It), e = .returned (.agg #[.slice va K.length vc, .int .i64 nx]) ∧ K.length ≤ 41 ∧ (∀ x ∈ K.map It.pl, SmP x) ∧ WV w' (w.heap.size + 1) K.length va vc K ∧ Cur B w' q ∧ w.grownBy w' (some q)
theorem SE.done {w W : World} {B q p vc : Nat} {va : Option Addr} {nx : Int} {K : List It} (h : SE w B q p va vc nx K W) {w9 : World} (gr : W.grownBy w9 (some w.heap.size)) : DrawnT w B q (.returned (.agg #[.slice va K.length vc, .int .i64 nx])) w9 := by
  have far := h.far
  have hc := h.cur.1
  exact ⟨va, vc, nx, K, rfl, h.len, h.small, h.row.hi (fun x h1 h2 => gr.block x h2 (fun e => by have e2 := Option.some.inj e; omega)), h.cur.keep gr (by simp; omega) (fun k hk => by cases hk; omega), grown_more h.gr gr (fun k hk => by cases hk; exact Nat.le_refl _)⟩
/-- full facts count up -/
def Upto (K : List It) : Prop := ∀ x ∈ K.map It.pl, x.kd ≠ ⟨#[102, 117, 108, 108]⟩ ∨ ∃ N : Int, x.L = [⟨1, N, ⟨#[]⟩⟩] ∧ N < (K.length : Int)
theorem Upto.id {K : List It} (h : Upto K) : idP (K.map It.pl) ⟨#[102, 117, 108, 108]⟩ [⟨1, (K.length : Int), ⟨#[]⟩⟩] = 0 := by
  refine idP_none (fun j hj => ?_)
  have := h (iAt K j).pl (List.mem_map.2 ⟨_, by rw [iAt_in hj]; exact List.getElem_mem hj, rfl⟩)
  unfold It.same sameF
  rcases this with h1 | ⟨N, h1, h2⟩
  · rw [decide_eq_false (show ¬ (iAt K j).kd = _ from h1)]; rfl
  · rw [show (iAt K j).L = _ from h1, decide_eq_false (show ¬ ([⟨1, N, ⟨#[]⟩⟩] : List V3) = [⟨1, (K.length : Int), ⟨#[]⟩⟩] from fun e => by simp at e; omega), Bool.and_false]
theorem Upto.step {K K' : List It} {nx : Int} (h : Upto K) (hl : K.length < 40) (hn : nx < 1000000) (hpl : K'.map It.pl = (assP (K.map It.pl) nx ⟨#[102, 117, 108, 108]⟩ [⟨1, (K.length : Int), ⟨#[]⟩⟩]).2.2) :
    (assP (K.map It.pl) nx ⟨#[102, 117, 108, 108]⟩ [⟨1, (K.length : Int), ⟨#[]⟩⟩]).2.1 = nx + 1 ∧ K'.length = K.length + 1 ∧ Upto K' := by
  have e : assP (K.map It.pl) nx ⟨#[102, 117, 108, 108]⟩ [⟨1, (K.length : Int), ⟨#[]⟩⟩] = (nx, nx + 1, K.map It.pl ++ [⟨nx, ⟨#[102, 117, 108, 108]⟩, [⟨1, (K.length : Int), ⟨#[]⟩⟩]⟩]) := by
    unfold assP
    rw [h.id, if_neg (by omega), if_neg (by rw [List.length_map]; omega)]
  rw [e] at hpl ⊢
  have hlen : K'.length = K.length + 1 := by
    have := congrArg List.length hpl
    simpa using this
  refine ⟨rfl, hlen, ?_⟩
  unfold Upto
  rw [hpl]
  intro x hx
  rcases List.mem_append.1 hx with hx | hx
  · rcases h x hx with h1 | ⟨N, h1, h2⟩
    · exact .inl h1
    · exact .inr ⟨N, h1, by omega⟩
  · simp only [List.mem_cons, List.not_mem_nil, or_false] at hx
    rw [hx]
    exact .inr ⟨_, rfl, by omega⟩
theorem full_sm (nx n : Int) : SmP ⟨nx, ⟨#[102, 117, 108, 108]⟩, [⟨1, n, ⟨#[]⟩⟩]⟩ := by
  refine ⟨show (⟨#[102, 117, 108, 108]⟩ : ByteArray).size ≤ 21 by decide, by simp, fun v hv => ?_⟩
  simp only [List.mem_cons, List.not_mem_nil, or_false] at hv
  rw [hv]
  exact show (⟨#[]⟩ : ByteArray).size ≤ 21 by decide
theorem one_rdV (W : World) (n : Int) : RdV (W.alloc (.cells #[.int .i64 1, .int .i64 n, .string ⟨#[]⟩] 85)) (some ⟨W.heap.size, 0, none⟩) [⟨1, n, ⟨#[]⟩⟩] := by
  obtain ⟨h0, h1, h2, -, -, -⟩ := box_cell (box_new W (.int .i64 1) (.int .i64 n) (.string ⟨#[]⟩) 85)
  intro i hi
  have : i = 0 := by simpa using hi
  subst this
  exact ⟨W.heap.size, 0, rfl, h0, h1, h2⟩

set_option maxRecDepth 100000 in
set_option maxHeartbeats 6400000 in
theorem l4Any_any (B q : Nat) (w : World) (hc : Cur B w q) :
    Calls Tryd.prog 50 #[.pointer (some ⟨q, 0, none⟩)] w (DrawnT w B q) := by
  obtain ⟨i0, hi, hz0, hz1, hz2⟩ := info_parts Tryd.info54
  have hq := hc.lt
  have hB := hc.1
  go_enter Tryd.func50, Tryd.ntmps50
  go_wp2_with fail
  have G1 := grown_alloc w (.cells #[.slice none 0 0, .int .i64 0] 29) q
  have HR1 := hide (box2_new w (.slice none 0 0) (.int .i64 0) 29)
  have c1 : Cur B (w.alloc (.cells #[.slice none 0 0, .int .i64 0] 29)) q := hc.keep (World.grownBy_alloc w _ none) (by simp) (by simp)
  have l1 : (w.alloc (.cells #[.slice none 0 0, .int .i64 0] 29)).heap.size = w.heap.size + 1 := by simp
  generalize w.alloc (.cells #[.slice none 0 0, .int .i64 0] 29) = w1 at G1 HR1 c1 l1 ⊢
  refine (l4Draw_any B q _ c1).mono ?_
  rintro e w2 ⟨va, vc, nx, K, rfl, hK, hsm, hnf, hn0, hn9, hrow, c2, g2⟩
  have G2 : w.grownBy w2 (some q) := grown_trans G1 g2
  have HR2 := hide (box_grown HR1.out g2 (by omega))
  have s2 := g2.size
  have D0 : SD w B q w2.heap.size va vc nx K (w2.alloc (.cells #[.slice va K.length vc, .int .i64 nx] 29)) :=
    ⟨c2.keep (World.grownBy_alloc w2 _ none) (by simp) (by simp), box2_new w2 _ _ _, (hrow.weaken (by omega)).later (below_al w2 _), grown_trans G2 (grown_alloc w2 _ q), ⟨hq, by omega⟩, box_alloc HR2.out _, hsm, hK, hn0⟩
  have HNF := hide hnf
  clear G2 HR2 c2 hsm g2 c1 G1 HR1 hrow hnf hK
  go_wp2_with fail
  refine (l1Below_any B q 12 _ D0.cur (by omega) (by omega)).mono ?_
  rintro e w3 ⟨x, rfl, x0, x1, c3, g3⟩
  have D3 := D0.draws c3 g3
  obtain ⟨p, HPp⟩ : ∃ p, Hid (w2.heap.size = p) := ⟨_, rfl⟩
  rw [HPp.out] at D3 ⊢
  clear D0 c3 g3 HPp s2 l1
  have hfar := D3.far
  by_cases h0 : x = 0
  · subst h0
    have c3 := D3.cur
    go_wp2_with fail
    refine (l1Int_any B q w3.heap.size [0, 1, 1000000, 1000001] 4 _ (c3.keep (World.grownBy_alloc w3 _ none) (by simp) (by simp)) (by decide) (by decide) (by have := c3.lt; omega) (cells_lit w3 3 _)).mono ?_
    rintro e w4 ⟨nx', rfl, hx, c4, g4⟩
    have hn' : 0 ≤ nx' := by
      simp only [List.mem_cons, List.not_mem_nil, or_false] at hx
      omega
    have D4 := (D3.later (below_al w3 _)).draws c4 g4
    have HD5 := hide (D4.next nx' hn').se
    obtain ⟨b0, b1, -, bf1⟩ := box2_cell D4.box
    obtain ⟨r0, r1, rf0, rf1⟩ := box2_cell D4.res
    clear D3 D4 hx c3 c4 g4
    go_wp2
    generalize w4.setCell ⟨p, 1, none⟩ (.int .i64 nx') = w5 at HD5
    refine box2_post HD5.out.res (fun w9 h9 gr => ?_)
    clear b0 b1 bf1 r0 r1 rf0 rf1
    obtain ⟨d0, d1, -, -⟩ := box2_cell h9
    exact bodyPost_ret (v := .agg #[.slice va K.length vc, .int .i64 nx']) (by simp [results, Tryd.results50, go_sem, d0, d1]) rfl (HD5.out.done gr)
  · have k0 : (x == 0) = false := by simpa using h0
    by_cases h1 : x = 1
    · subst h1
      clear h0 k0
      have HD := hide D3
      have hlen := D3.len
      obtain ⟨b0, b1, bf0, -⟩ := box2_cell D3.box
      clear D3
      go_wp2_with fail
      go_region_law (first
        | (refine step_append_lies _ rfl (.tmp 17) (.tmp 23) 27 rfl (w.heap.size + 1) 54 i0 (.agg #[.int .i64 0, .string ⟨#[]⟩, .slice none 0 0]) 3 48 Tryd.underlying27 hi hz0 hz1 hz2 rfl (by omega) (.slice va K.length vc) K.length (rowOf It.cells K) (by simp [Act.eval]) D6.se.row.own ⟨w5.heap.size, 0, none⟩ 1 1 (It.cells ⟨idv, kd, a', c', L⟩) (by simp [Act.eval]) rfl (srcI w5 ⟨idv, kd, a', c', L⟩) (oneI _) (by omega) (by unfold maxLen; omega) (by omega) (by have := D6.far; have := D6.lt; omega) _ rfl ?_; intro g cap w7 ho7 hg7 hat7 hlt7; obtain ⟨xx1, yy1, D8⟩ := D6.appended (x := ⟨idv, kd, a', c', L⟩) HXs.out HLx.out HVv.out ho7 hg7 hat7 rfl)
        | (rw [if_pos (by simp [Region.wanted])]; go_simp; go_at_call 75; refine (l1Below_any B q 9 _ HD.out.drew.cur (by omega) (by omega)).mono ?_; rintro e w4 ⟨idv, rfl, iv0, iv1, c4, g4⟩; have D4 := HD.out.drew.draws c4 g4; obtain ⟨e0, e1, ef0, -⟩ := box2_cell D4.box)
        | (rw [if_pos (by simp [Region.wanted])]; go_simp; go_at_call 51; refine (l3Any_any B q _ D4.cur).mono ?_; rintro e w5 ⟨kd, v, L, rfl, hL, hkd, hsmL, o5, c5, g5⟩; have D5 := D4.draws c5 g5; obtain ⟨a', c', rfl, -, -, -, -⟩ := rdV_owns o5; have HLx := hide (lieOf o5); have HXs : Hid (SmP (It.pl ⟨idv, kd, a', c', L⟩)) := ⟨hkd, hL, hsmL⟩; have HVv := hide (valrow (p := (.cells #[.int .i64 idv, .string kd, .slice a' L.length c'] 54)) (va := va) (n := K.length) (vc := vc) (lo := w.heap.size + 1) o5 (fun r e => (D4.se.row.own.lt r e).2) (by have := D4.far; have := D4.lt; omega)); have D6 := D5.later (below_al w5 (.cells #[.int .i64 idv, .string kd, .slice a' L.length c'] 54)); obtain ⟨f0, f1, ff0, -⟩ := box2_cell D5.box; obtain ⟨h0, h1, hf0, -⟩ := box2_cell D6.box))
      all_goals
        have HD8 := hide D8
        have e0' := boxk_cell D8.box 0 _ rfl
        have e1' := boxk_cell D8.box 1 _ rfl
        obtain ⟨r0, r1, rf0, rf1⟩ := box2_cell D8.res
        have hlk : (K ++ [(⟨idv, kd, a', c', L⟩ : It)]).length = K.length + 1 := by simp
        rw [hlk] at e0'
        clear D8 D6 D5 D4 HD
        go_wp2
        refine box2_post HD8.out.res (fun w9 h9 gr => ?_)
        clear r0 r1 rf0 rf1 e0' e1'
        obtain ⟨d0, d1, -, -⟩ := box2_cell h9
        exact bodyPost_ret (v := .agg #[.slice (some ⟨g, 0, none⟩) (K ++ [(⟨idv, kd, a', c', L⟩ : It)]).length cap, .int .i64 nx]) (by rw [hlk]; simp [results, Tryd.results50, go_sem, d0, d1]) rfl (HD8.out.done gr)
    · have k1 : (x == 1) = false := by simpa using h1
      by_cases h2 : x = 2
      · subst h2
        clear h0 h1 k0 k1
        have HD0 := hide D3
        have HUp : Hid (Upto K) := fun x hx => .inl (HNF.out x hx)
        clear D3
        go_wp2
        go_loopw [30] (fun _ wr => ∃ (va : Option Addr) (vc : Nat) (nx : Int) (K : List It), nx ≤ 9 + (K.length : Int) ∧ Upto K ∧ SD w B q p va vc nx K wr) (fun _ wr => 40 - lenAtG (wr.cell? ⟨p, 0, none⟩))
        case atStart => exact ⟨va, vc, nx, K, by omega, HUp.out, HD0.out⟩
        case round =>
          clear HD0 HUp HNF hn0 hn9
          obtain ⟨va, vc, nx, K, hnx, hup, D⟩ := hrel
          have HUp := hide hup
          clear hup
          obtain ⟨b0, b1, -, -⟩ := box2_cell D.box
          have HC := hide b0
          have hlen := D.len
          by_cases hlt : K.length < 40
          · have hli : (K.length : Int) < 40 := by omega
            have D4 := D.later (below_al wr (.cells #[.int .i64 1, .int .i64 (K.length : Int), .string ⟨#[]⟩] 85))
            have rV := one_rdV wr (K.length : Int)
            have HD4 := hide D4
            clear D D4
            go_wp2_with fail
            refine (l4Assert_any p (w.heap.size + 1) K.length vc 1 va (some ⟨wr.heap.size, 0, none⟩) nx ⟨#[102, 117, 108, 108]⟩ K [⟨1, (K.length : Int), ⟨#[]⟩⟩] _ HD4.out.box HD4.out.row rfl (by omega) HD4.out.rows rV (by simp) (by have := HD4.out.far; omega) (by have := HD4.out.far; have := HD4.out.lt; omega) HD4.out.nx0).mono ?_
            rintro e w4 ⟨rfl, va', vc', K', hbx, hhv, hpl, hbl⟩
            obtain ⟨e1, e2, up'⟩ := HUp.out.step (nx := nx) hlt (by omega) hpl
            have HD5 := hide (HD4.out.asserted (full_sm _ _) hbx hhv hpl hbl)
            rw [e1] at HD5
            have HC5 := hide ((box2_cell HD5.out.box).1)
            have HU5 := hide up'
            have he2 := e2
            clear hbx hhv hpl hbl HD4 rV b0 b1 up' e1
            generalize (assP (K.map It.pl) nx ⟨#[102, 117, 108, 108]⟩ [⟨1, (K.length : Int), ⟨#[]⟩⟩]).1 = rr
            go_wp2
            go_roundw
            case rel => exact ⟨va', vc', nx + 1, K', by omega, HU5.out, HD5.out⟩
            case measure =>
              have e6 : lenAtG (w4.cell? ⟨p, 0, none⟩) = K'.length := by rw [HC5.out]; rfl
              have e0 : lenAtG (wr.cell? ⟨p, 0, none⟩) = K.length := by rw [HC.out]; rfl
              rw [e6, e0]
              omega
          · have hli : ¬ (K.length : Int) < 40 := by omega
            have HD := hide D.se
            obtain ⟨r0, r1, rf0, rf1⟩ := box2_cell D.res
            clear D
            go_wp2
            refine box2_post HD.out.res (fun w9 h9 gr => ?_)
            clear b0 b1 r0 r1 rf0 rf1
            obtain ⟨d0, d1, -, -⟩ := box2_cell h9
            exact bodyPost_ret (v := .agg #[.slice va K.length vc, .int .i64 nx]) (by simp [results, Tryd.results50, go_sem, d0, d1]) rfl (HD.out.done gr)
      · have k2 : (x == 2) = false := by simpa using h2
        clear h0 h1 h2
        have HD := hide D3.se
        obtain ⟨b0, b1, -, -⟩ := box2_cell D3.box
        obtain ⟨r0, r1, rf0, rf1⟩ := box2_cell D3.res
        clear D3
        go_wp2
        refine box2_post HD.out.res (fun w9 h9 gr => ?_)
        clear b0 b1 r0 r1 rf0 rf1
        obtain ⟨d0, d1, -, -⟩ := box2_cell h9
        exact bodyPost_ret (v := .agg #[.slice va K.length vc, .int .i64 nx]) (by simp [results, Tryd.results50, go_sem, d0, d1]) rfl (HD.out.done gr)
end Go.Proofs.YtaflokfgbmlmaadDoor
