/-
  Rows of Pats, each with a list of its own: what a slice of them reads as, what came in.
-/
import Derived.Test.YtcfhpcbkdpgboaaDeep
import Derived.Test.YtcfhpcbkdpgboaaArgRow
namespace Go.Proofs.Ytcfhpcbkdpgboaa
open Go.ChangeShapes Go.WideShapes Go.ChangeAt Go.RowKit Go.Joins Go.Deep
set_option linter.unusedVariables false

set_option maxRecDepth 100000

structure PE where
  kd : ByteArray
  a : Option Addr
  cap : Nat
  L : List A5
  nt : Bool
instance : Inhabited PE := ⟨⟨⟨#[]⟩, none, 0, [], false⟩⟩
def PE.zero : PE := ⟨⟨#[]⟩, none, 0, [], false⟩
/-- the same, plainly -/
structure PP where
  kd : ByteArray
  L : List A5
  nt : Bool
instance : Inhabited PP := ⟨⟨⟨#[]⟩, [], false⟩⟩
def PE.pl (x : PE) : PP := ⟨x.kd, x.L, x.nt⟩
theorem PE.pl_inj {x y : PE} (h : x.pl = y.pl) : x.kd = y.kd ∧ x.L = y.L ∧ x.nt = y.nt := by simpa [PE.pl] using h
def PE.cs (x : PE) : List Value := [.string x.kd, .slice x.a x.L.length x.cap, .bool x.nt]
theorem PE.len (x : PE) : x.cs.length = 3 := rfl
def PE.ok (x : PE) : Prop := x.kd.size ≤ maxLen ∧ x.L.length ≤ maxLen ∧ ∀ v ∈ x.L, v.fits
/-- how great one is -/
def PE.sz (x : PE) : Nat := x.kd.size + x.L.length
def PE.small (x : PE) : Prop := x.kd.size ≤ 1048576 ∧ x.L.length ≤ 1048576 ∧ ∀ v ∈ x.L, v.small
theorem PE.small_of {x y : PE} (h : x.small) (e : y.pl = x.pl) : y.small := by
  obtain ⟨e0, e1, e2⟩ := PE.pl_inj e
  unfold PE.small at *
  rw [e0, e1]; exact h
/-- what the slice at 'a' reads as -/
def RdPatS (w : World) (a : Option Addr) (J : List PE) : Prop := RdK PE.cs 3 w a J ∧ ∀ i, i < J.length → RdArg w (eAt J i).a (eAt J i).L
theorem RdPatS.cells {w : World} {a : Option Addr} {J : List PE} (h : RdPatS w a J) (hp : 0 < J.length) :
    ∃ b off, a = some ⟨b, off, none⟩ ∧ b < w.heap.size ∧ ∀ i, i < J.length → w.cell? ⟨b, off + i * 3, none⟩ = some (.string (eAt J i).kd) ∧ w.cell? ⟨b, off + i * 3 + 1, none⟩ = some (.slice (eAt J i).a (eAt J i).L.length (eAt J i).cap) ∧ w.cell? ⟨b, off + i * 3 + 2, none⟩ = some (.bool (eAt J i).nt) ∧ RdArg w (eAt J i).a (eAt J i).L := by
  obtain ⟨b, off, e, hb, hc⟩ := RdK.open PE.len (by decide) h.1 hp
  refine ⟨b, off, e, hb, fun i hi => ?_⟩
  have hc := hc i hi
  exact ⟨hc 0 _ rfl, hc 1 _ rfl, hc 2 _ rfl, h.2 i hi⟩
theorem RdPatS.below {w w' : World} {a : Option Addr} {J : List PE} (h : RdPatS w a J) (hb : Below w.heap.size w w') : RdPatS w' a J := ⟨h.1.below hb, fun i hi => (h.2 i hi).below hb⟩
theorem RdPatS.heap {w w' : World} {a : Option Addr} {J : List PE} (h : RdPatS w a J) (hb : w'.heap = w.heap) : RdPatS w' a J := ⟨h.1.heap hb, fun i hi => (h.2 i hi).heap hb⟩
theorem RdPatS.nil (w : World) (a : Option Addr) : RdPatS w a [] := ⟨RdK.nil _ _ _ _, fun i hi => absurd hi (Nat.not_lt_zero _)⟩
def IsPatS (w : World) (a : Option Addr) (len cap : Nat) (J : List PE) : Prop := J.length = len ∧ len ≤ maxLen ∧ RdPatS w a J ∧ ∀ x ∈ J, x.ok
abbrev InPat : World → Nat → Nat → PE → Prop := InK 77 A5.cs 5 PE.a PE.cap PE.L
theorem innPat : Inn (InPat) := inn_K _ _ _ _ _ _
abbrev OwnPatS (w : World) (lo hi g cp : Nat) (K : List PE) (m : Nat) : Prop := OwnD 47 PE.cs 3 InPat w lo hi g cp K m
theorem rdOwnPatS {w : World} {lo hi g cp : Nat} {K : List PE} (h : OwnPatS w lo hi g cp K K.length) : RdPatS w (some ⟨g, 0, none⟩) K :=
  ⟨OwnK.rd PE.len (by decide) h.own, fun i hi => by obtain ⟨s, e, q, h1, -, -, h4⟩ := h.at hi; rw [h1]; exact rdOwnArg h4⟩
theorem pat_cells' {H : Type} {enc : TypeId × Value → H} {w : World} {spare : Nat → Bool} {held : Bool} {n : Nat} {cs : List Value} {x : DataW H × List MemPlace}
    (h : DataW.trod enc Try.prog w 0 spare held n 121 cs = some x) : ∃ y : PE, cs = y.cs ∧ RdArg w y.a y.L ∧ y.ok := by
  obtain ⟨y0, y1, y2, m, -, hl, h0, h1, h2⟩ := trod_struct3 Try.underlying121 h
  have hc : Try.prog.cellsOf 121 = 3 := by kernel_rfl
  have e0 : Try.prog.cellsOf 9 = 1 := by kernel_rfl
  have e1 : Try.prog.cellsOf 119 = 1 := by kernel_rfl
  have e2 : Try.prog.cellsOf 4 = 1 := by kernel_rfl
  rw [hc] at hl
  match cs, hl with
  | [c0, c1, c2], _ =>
    simp only [e0, e1, e2, List.drop_zero, List.drop_succ_cons, List.take_succ_cons, List.take_zero] at h0 h1 h2
    obtain ⟨v0, q0, _, w0⟩ := DataW.trod_string Try.underlying9 h0
    obtain ⟨aa, len, cap, L, qL, hlen, hm, hr, hf⟩ := args_in h1
    obtain ⟨v2, q2, _⟩ := DataW.trod_bool Try.underlying4 h2
    simp only [List.cons.injEq, and_true] at q0 q2
    exact ⟨⟨v0, aa, cap, L, v2⟩, by rw [q0, q2, qL, ← hlen]; rfl, hr, w0, by rw [hlen]; exact hm, hf⟩
theorem pats_in {H : Type} {enc : TypeId × Value → H} {w : World} {spare : Nat → Bool} {held : Bool} {n : Nat} {v : Value} {x : DataW H × List MemPlace}
    (h : DataW.trod enc Try.prog w 0 spare held n 68 [v] = some x) : ∃ a len cap J, v = .slice a len cap ∧ IsPatS w a len cap J := by
  have hc : Try.prog.cellsOf 121 = 3 := by kernel_rfl
  rcases open_slice Try.underlying68 h with ⟨h0, _⟩ | ⟨a, len, cap, m, n', D, Pl, h0, hb, hl, hm, hmm, _, hx⟩
  · simp only [List.cons.injEq, and_true] at h0
    exact ⟨none, 0, 0, [], h0, rfl, Nat.zero_le _, RdPatS.nil _ _, fun v hv => by cases hv⟩
  · simp only [List.cons.injEq, and_true] at h0
    have hlm : len ≤ m := by rw [hmm]; split <;> omega
    obtain ⟨F, hF⟩ := choose_lt (α := PE) (n := len) (p := fun i v => w.cells? 0 (a.add (i * 3)) 3 = some v.cs ∧ RdArg w v.a v.L ∧ v.ok) (fun i hi => by
      obtain ⟨cs', h1, h2⟩ := hx i (by omega)
      rw [hc] at h1
      obtain ⟨y, rfl, hs⟩ := pat_cells' h2
      exact ⟨y, h1, hs⟩)
    refine ⟨some a, len, cap, (List.range len).map F, h0, by simp, Nat.le_trans hl hm, ⟨fun i hi => ?_, fun i hi => ?_⟩, fun v hv => ?_⟩
    · have hi2 : i < len := by simpa using hi
      obtain ⟨_, _, hcell⟩ := World.cells?_some (hF i hi2).1
      obtain ⟨b, off, spot⟩ := a
      have hs : spot = none := by
        obtain ⟨_, _, hcell0⟩ := World.cells?_some (hF 0 (by omega)).1
        have e := hcell0 0 (by omega)
        rw [add_add] at e
        simp only [PE.cs, List.getElem?_cons_zero] at e
        simpa [Addr.add] using World.cell?_spot e
      subst hs
      have ev : eAt ((List.range len).map F) i = F i := by rw [eAt_in hi]; simp
      rw [ev]
      refine ⟨b, off, rfl, fun j c hj => ?_⟩
      have hjk : j < 3 := by rw [← (F i).len]; exact (List.getElem?_eq_some_iff.1 hj).1
      have e := hcell j hjk
      rw [add_add, Addr.add_lit, hj] at e
      simpa [Nat.add_assoc] using e
    · have ev : eAt ((List.range len).map F) i = F i := by rw [eAt_in hi]; simp
      rw [ev]
      exact (hF i (by simpa using hi)).2.1
    · obtain ⟨i, hi, rfl⟩ := List.mem_map.1 hv
      exact (hF i (List.mem_range.1 hi)).2.2
theorem rowOf_set_PE (x : PE) : ∀ (L : List PE) (i : Nat), i < L.length →
    ((((rowOf PE.cs L).set (i * 3) (.string x.kd)).set (i * 3 + 1) (.slice x.a x.L.length x.cap)).set (i * 3 + 2) (.bool x.nt)) = rowOf PE.cs (L.set i x)
  | [], i, hi => absurd hi (Nat.not_lt_zero _)
  | y :: r, 0, hi => by
    rw [List.set_cons_zero, rowOf_cons, rowOf_cons]
    rfl
  | y :: r, i + 1, hi => by
    have ih := rowOf_set_PE x r i (by simpa using hi)
    rw [List.set_cons_succ, rowOf_cons, rowOf_cons, ← ih]
    simp only [Nat.succ_mul, PE.cs]
    rfl
theorem rowOf_set_PE_kd (v : ByteArray) : ∀ (L : List PE) (i : Nat), i < L.length → (rowOf PE.cs L).set (i * 3) (.string v) = rowOf PE.cs (L.set i { eAt L i with kd := v })
  | [], i, hi => absurd hi (Nat.not_lt_zero _)
  | y :: r, 0, hi => by
    rw [List.set_cons_zero, rowOf_cons, rowOf_cons]
    rfl
  | y :: r, i + 1, hi => by
    have ih := rowOf_set_PE_kd v r i (by simpa using hi)
    rw [List.set_cons_succ, rowOf_cons, rowOf_cons, show eAt (y :: r) (i + 1) = eAt r i from rfl, ← ih]
    simp only [Nat.succ_mul, PE.cs]
    rfl
theorem rowOf_set_PE_nt (v : Bool) : ∀ (L : List PE) (i : Nat), i < L.length → (rowOf PE.cs L).set (i * 3 + 2) (.bool v) = rowOf PE.cs (L.set i { eAt L i with nt := v })
  | [], i, hi => absurd hi (Nat.not_lt_zero _)
  | y :: r, 0, hi => by
    rw [List.set_cons_zero, rowOf_cons, rowOf_cons]
    rfl
  | y :: r, i + 1, hi => by
    have ih := rowOf_set_PE_nt v r i (by simpa using hi)
    rw [List.set_cons_succ, rowOf_cons, rowOf_cons, show eAt (y :: r) (i + 1) = eAt r i from rfl, ← ih]
    simp only [Nat.succ_mul, PE.cs]
    rfl
end Go.Proofs.Ytcfhpcbkdpgboaa
