/-
  What the tested writer of numbers makes: a row of the call's own that holds the bytes, and behind them encN of the number; nothing that was there has turned.
-/
import Derived.Test.YtofdbnkeddcdjaaDoorEnc
import Derived.Test.YtofdbnkeddcdjaaDoorBytes
import Derived.Laws.CopyOwn
namespace Go.Proofs.YtofdbnkeddcdjaaDoor
open Go.RowKit
set_option linter.unusedVariables false

/-- 'make' of a length and room behind it, both reckoned -/
theorem wpList_make_room {P : Program} (w : World) {ops : Array Oper} {rest : List Oper} {o : Oper} {a : Act} {Q : Exit → Act → World → Prop}
    (hg : o.guard = none) (l c : Operand) (t : TypeId) (hop : o.op = Op.makeSlice t l c)
    (e : TypeId) (i : TypeInfo) (z : Value) (h1 : P.underlying t = some (.slice e)) (h2 : P.info? e = some i) (h3 : i.zero = some z) (h4 : i.size = 1) (hz : z.cells = #[z])
    (kl kc : IntKind) (L C : Int) (n m : Nat) (hl : a.eval l = .int kl L) (hc : a.eval c = .int kc C) (hL : L = (n : Int)) (hC : C = (m : Int)) (hnm : n ≤ m) (b2 : i.bytes * m ≤ 281474976710656) (b3 : m ≤ maxLen)
    (hK : ∀ w', Hid (w'.heap[w.heap.size]? = some (.cells (List.replicate m z).toArray e (0, 0))) → w.grownBy w' none → wpList P ops Q rest (a.put o.dst (.slice (some ⟨w.heap.size, 0, none⟩) n m)) w') :
    wpList P ops Q (o :: rest) a w := by
  refine wpList_plain hg fun K hK' => ?_
  subst hL
  subst hC
  have hb' : (i.bytes : Int) * (m : Int) ≤ 281474976710656 := by
    have h : ((i.bytes * m : Nat) : Int) ≤ 281474976710656 := by omega
    rwa [Int.natCast_mul] at h
  have hr := run_make (P := P) w t e i z h1 h2 h3 kl kc n m (by omega) (by omega) hb' (by unfold maxLen at b3; omega)
  simp only [Int.toNat_natCast] at hr
  have hcs : madeCells z.cells (m * i.size) = (List.replicate m z).toArray := by
    rw [hz, h4, Nat.mul_one, ← toList_madeCells_one]
  rw [hcs] at hr
  unfold Oper.wp
  simp [execOp, hop, hl, hc, hr, Result.andThen]
  exact hK' _ _ (hK _ (by show (w.heap.push _)[w.heap.size]? = _; simp) (World.grownBy_alloc w _ none))

theorem splice_owns {w : World} {B n m : Nat} {bs : List UInt8} (hn : n = bs.length) (hnm : n ≤ m) (hm : m ≤ maxLen)
    (h : w.heap[B]? = some (.cells (splice (List.replicate m (Value.int .u8 0)) 0 (vals bs)).toArray 5 (0, 0))) :
    w.ownsRow B 5 1 (.slice (some ⟨B, 0, none⟩) n m) n (vals bs) := by
  refine ⟨by rw [vals_length]; omega, .inr ⟨B, m, _, rfl, Nat.le_refl _, h, hnm, hm, ?_, ?_⟩⟩
  · simp [splice, vals_length]; omega
  · simp [splice]
    rw [List.take_append_of_le_length (by rw [vals_length]; omega), List.take_of_length_le (by rw [vals_length]; omega)]

/-- every block that is no row of bytes stands as it stood -/
def TagKept (w w' : World) : Prop := ∀ (q : Nat) (cs : Array Value) (T : TypeId) (fr : Nat × Nat), T ≠ 5 → w.heap[q]? = some (.cells cs T fr) → w'.heap[q]? = some (.cells cs T fr)
theorem TagKept.refl (w : World) : TagKept w w := fun _ _ _ _ _ h => h
theorem TagKept.trans {a b c : World} (h : TagKept a b) (k : TagKept b c) : TagKept a c := fun q cs T fr hT hq => k q cs T fr hT (h q cs T fr hT hq)
theorem TagKept.alloc (w : World) (o : Obj) : TagKept w (w.alloc o) := by
  intro q cs T fr _ hq
  have hlt := (Array.getElem?_eq_some_iff.1 hq).1
  rw [← hq]
  show (w.heap.push o)[q]? = _
  rw [Array.getElem?_push, if_neg (by omega)]
theorem TagKept.below {w w' : World} (h : Below w.heap.size w w') : TagKept w w' := by
  intro q cs T fr _ hq
  rw [h.block q (Array.getElem?_eq_some_iff.1 hq).1]; exact hq
theorem TagKept.grown {w w' : World} {base n : Nat} {v : Value} {xs : List Value} (hown : w.ownsRow base 5 1 v n xs) (hg : w.grownBy w' v.ownBlock) : TagKept w w' := by
  intro q cs T fr hT hq
  have hlt := (Array.getElem?_eq_some_iff.1 hq).1
  rw [hg.block q hlt, hq]
  intro e
  rcases hown.2 with ⟨rfl, _⟩ | ⟨g, cap, cur, rfl, hb, hcur, _⟩
  · cases e
  · simp only [Value.ownBlock, Option.some.injEq] at e
    subst e
    rw [hcur] at hq
    simp only [Option.some.injEq, Obj.cells.injEq] at hq
    exact hT hq.2.1.symm

theorem Tryd.size5 : (Tryd.prog.info? 5).map (·.size) = some 1 := by kernel_rfl

set_option maxHeartbeats 1600000 in
theorem copyWithRoom_any (a : Option Addr) (cap room : Nat) (bs : List UInt8) (w : World) (hr : Rd w a bs) (hn : bs.length ≤ 33554432) (hm : room ≤ 33554432) :
    Calls Tryd.prog 28 #[.slice a bs.length cap, .int .i64 (room : Int)] w fun e w' =>
      e = .returned (.slice (some ⟨w.heap.size, 0, none⟩) bs.length (bs.length + room)) ∧ w'.ownsRow w.heap.size 5 1 (.slice (some ⟨w.heap.size, 0, none⟩) bs.length (bs.length + room)) bs.length (vals bs) ∧ Below w.heap.size w w' := by
  obtain ⟨i0, hi, hz0, hz1, hz2⟩ := info_parts Tryd.info5
  obtain ⟨n, hN⟩ : ∃ n, n = bs.length := ⟨_, rfl⟩
  rw [← hN] at hn ⊢
  have HN := hide hN
  clear hN
  go_enter Tryd.func28, Tryd.ntmps28
  go_wp2_with (at_make; refine wpList_make_room _ rfl _ _ 22 rfl 5 i0 (.int .u8 0) Tryd.underlying22 hi hz0 hz1 rfl _ _ _ _ n (n + room) rfl rfl (by omega) (by omega) (by omega) (by rw [hz2]; omega) (by unfold maxLen; omega) ?_)
  intro w1 hh1 hg1
  have hb1 : Below w.heap.size w w1 := (Below.refl _ _).grown hg1 (Nat.le_refl _) (fun k h => by cases h)
  clear hg1
  go_wp2_with (refine wpList_copy_splice rfl (.tmp 13) (.tmp 14) 22 22 rfl 5 Tryd.underlying22 Tryd.size5 _ _ n (n + room) n cap rfl rfl w.heap.size 0 (List.replicate (n + room) (.int .u8 0)) 5 hh1.out (vals bs) ?c1 ?c2 ?c3 (vals_one bs) w.heap.size w hb1 (Nat.le_refl _) ?_)
  case c1 => rw [vals_length, ← HN.out]; exact (Nat.min_self n).symm
  case c2 =>
    intro hp
    rw [vals_length] at hp
    obtain ⟨b, off, rfl, _, _⟩ := hr.open hp
    first
      | exact ⟨rfl, _, rfl, rd_cells (hr.below hb1)⟩
      | exact ⟨_, rfl, rd_cells (hr.below hb1)⟩
  case c3 => rw [vals_length, ← HN.out]; simp
  intro w2 hh2 hb2
  have HO := hide (splice_owns HN.out (show n ≤ n + room by omega) (by unfold maxLen; omega) hh2.out)
  clear hh1 hh2
  go_wp2
  go_ret
  exact ⟨rfl, HO.out, hb2⟩

set_option maxHeartbeats 400000 in
theorem foldSign_any (n : Int) (w : World) (h : -1000000000 ≤ n) (h2 : n ≤ 1000000000) :
    Calls Tryd.prog 58 #[.int .i64 n] w fun e w' => e = .returned (.int .i64 (foldN n : Nat)) ∧ w' = w := by
  by_cases hneg : n < 0
  · have HU := hide (foldN_neg hneg)
    go_enter Tryd.func58, Tryd.ntmps58
    go_wp2
    go_ret
    exact ⟨ret_int (by rw [HU.out]), rfl⟩
  · have HU := hide (foldN_pos hneg)
    go_enter Tryd.func58, Tryd.ntmps58
    go_wp2
    go_ret
    exact ⟨ret_int (by rw [HU.out]), rfl⟩

set_option maxRecDepth 100000 in
set_option maxHeartbeats 1600000 in
theorem putGroups_any (v : Value) (len base M : Nat) (bs : List UInt8) (w : World) (hown : w.ownsRow base 5 1 v len (vals bs)) (hbase : base ≤ w.heap.size) (hn : bs.length ≤ 33554432) (hM : M ≤ 2000000000) :
    Calls Tryd.prog 57 #[v, .int .i64 (M : Int)] w fun e w' =>
      ∃ v', e = .returned v' ∧ w'.ownsRow base 5 1 v' (bs ++ encG 5 M).length (vals (bs ++ encG 5 M)) ∧ Below base w w' ∧ TagKept w w' := by
  obtain ⟨i0, hi, hz0, hz1, hz2⟩ := info_parts Tryd.info5
  have hlen : len = bs.length := by have := hown.1; rw [vals_length] at this; omega
  subst hlen
  have hE := encG_length 5 M
  obtain ⟨E, HE⟩ : ∃ E, Hid (encG 5 M = E) := ⟨_, rfl⟩
  rw [HE.out] at hE ⊢
  have hown0 := hide hown
  clear hown
  go_enter Tryd.func57, Tryd.ntmps57
  go_wp2
  go_loopw [0, 1] (fun out mm wr => ∃ (m f : Nat) (pre : List UInt8), mm = .int .i64 m ∧ m < 128 ^ f ∧ m ≤ 2000000000 ∧ pre ++ encG f m = E ∧ wr.ownsRow base 5 1 out (bs.length + pre.length) (vals (bs ++ pre)) ∧ Below base w wr ∧ TagKept w wr)
    (fun _ mm _ => (intOf mm).toNat)
  case atStart => exact ⟨M, 5, [], rfl, Nat.lt_of_le_of_lt hM (by decide), hM, HE.out, by simpa using hown0.out, Below.refl _ _, TagKept.refl _⟩
  case round =>
    obtain ⟨m, f, pre, rfl, hm, hm2, hp, hown, hbel, htag⟩ := hrel
    have HTG := hide htag
    clear htag
    have HM := hide hm
    have HP := hide hp
    have hpl : pre.length ≤ 6 := by rw [← hp] at hE; simp at hE; omega
    have hsz : base ≤ wr.heap.size := Nat.le_trans hbase hbel.size
    clear hm hp hE
    by_cases hlt : m < 128
    · have HZ : Hid (vals (bs ++ pre) ++ [Value.int .u8 (m : Int)] = vals (bs ++ E) ∧ bs.length + pre.length + 1 = (bs ++ E).length) := by
        refine ⟨?_, ?_⟩
        · rw [vals_last hlt, ← vals_append, ← HP.out, encG_small hlt, List.append_assoc]
        · rw [← HP.out, encG_small hlt]; simp; omega
      go_wp2_with (at_builtin; refine wpList_append_own _ rfl (.tmp 16) (.tmp 19) 22 rfl base 5 i0 (.int .u8 0) 1 1 Tryd.underlying22 hi hz0 hz1 hz2 rfl (by decide) _ _ _ rfl (hown.alloc _) ⟨wr.heap.size, 0, none⟩ 1 1 [.int .u8 (m : Int)] rfl rfl (one_cell _ _ _) (by intro u hu; simp at hu; subst hu; rfl) (by unfold maxLen; omega) (by omega) (by simp; omega) ?_)
      intro v2 w2 hown2 hgrow2 _
      rw [HZ.out.1, HZ.out.2] at hown2
      have hb2 : Below base w w2 := (hbel.alloc hsz _).grown hgrow2 (by simp; omega) (fun k hk => (hown.lt k hk).1)
      have HT2 := hide ((HTG.out.trans (TagKept.alloc _ _)).trans (TagKept.grown (hown.alloc _) hgrow2))
      clear hgrow2 hown
      go_wp2
      go_ret
      exact ⟨_, rfl, hown2, hb2, HT2.out⟩
    · obtain ⟨g, rfl, hg1, hg2⟩ := enc_step hlt HM.out
      have HG := hide hg2
      clear hg2
      go_wp2_with (at_builtin; refine wpList_append_own _ rfl (.tmp 7) (.tmp 12) 22 rfl base 5 i0 (.int .u8 0) 1 1 Tryd.underlying22 hi hz0 hz1 hz2 rfl (by decide) _ _ _ rfl (hown.alloc _) ⟨wr.heap.size, 0, none⟩ 1 1 [.int .u8 ((m : Int) % 128 + 128)] rfl rfl (one_cell _ _ _) (by intro u hu; simp at hu; subst hu; rfl) (by unfold maxLen; omega) (by omega) (by simp; omega) ?_)
      intro v2 w2 hown2 hgrow2 _
      rw [vals_cont m, ← vals_append] at hown2
      have hb2 : Below base w w2 := (hbel.alloc hsz _).grown hgrow2 (by simp; omega) (fun k hk => (hown.lt k hk).1)
      have HT2 := hide ((HTG.out.trans (TagKept.alloc _ _)).trans (TagKept.grown (hown.alloc _) hgrow2))
      clear hgrow2 hown
      go_wp2
      go_roundw
      case rel =>
        refine ⟨m / 128, g, pre ++ [UInt8.ofNat (m % 128 + 128)], by go_num, hg1, by omega, ?_, ?_, hb2, HT2.out⟩
        · rw [List.append_assoc, List.singleton_append, ← HG.out]; exact HP.out
        · rw [← List.append_assoc]; simpa [Nat.add_assoc] using hown2
      case measure => simp [intOf]; omega

/-- the kept number, case by case -/
theorem clamp_cases (n : Int) : (1000000000 < n ∧ clampN n = 1000000000) ∨ (n < -1000000000 ∧ clampN n = -1000000000) ∨ ((-1000000000 ≤ n ∧ n ≤ 1000000000) ∧ clampN n = n) := by
  unfold clampN; split; omega; split <;> omega

set_option maxHeartbeats 1600000 in
theorem putNums_one (v : Value) (len base q : Nat) (n : Int) (bs : List UInt8) (w : World) (hown : w.ownsRow base 5 1 v len (vals bs)) (hbase : base ≤ w.heap.size) (hn : bs.length ≤ 33554432) (hq : w.cell? ⟨q, 0, none⟩ = some (.int .i64 n)) :
    Calls Tryd.prog 47 #[v, .slice (some ⟨q, 0, none⟩) 1 1] w fun e w' =>
      ∃ v', e = .returned v' ∧ w'.ownsRow base 5 1 v' (bs ++ encN n).length (vals (bs ++ encN n)) ∧ Below base w w' ∧ TagKept w w' := by
  rcases clamp_cases n with ⟨h1, h2⟩ | ⟨h1, h2⟩ | ⟨⟨h0, h1⟩, h2⟩
  all_goals
    have HE : Hid (encN n = encG 5 (foldN (clampN n))) := rfl
    rw [h2] at HE
    clear h2
    go_enter Tryd.func47, Tryd.ntmps47
    go_wp2
    go_loopw [0, 9] (fun out i wr => (i = .int .i64 0 ∧ out = v ∧ wr = w) ∨ (i = .int .i64 1 ∧ wr.ownsRow base 5 1 out (bs ++ encN n).length (vals (bs ++ encN n)) ∧ Below base w wr ∧ Hid (TagKept w wr))) (fun _ i _ => 1 - (intOf i).toNat)
    case atStart => exact Or.inl ⟨rfl, rfl, rfl⟩
    case round =>
      rcases hrel with ⟨rfl, rfl, rfl⟩ | ⟨rfl, hown2, hb2, ht2⟩
      · go_wp2_with (go_at_call 58; refine (foldSign_any _ _ (by omega) (by omega)).mono ?_; rintro e w' ⟨rfl, rfl⟩)
        refine (putGroups_any _ len base _ bs _ hown hbase hn (foldN_le (by omega))).mono ?_
        rintro e w2 ⟨v2, rfl, hown2, hb2, ht2⟩
        have HT2 := hide ht2
        clear ht2
        rw [← HE.out] at hown2
        go_wp2
        go_roundw
        case rel => exact Or.inr ⟨by go_num, hown2, hb2, HT2⟩
        case measure => simp [intOf]
      · go_wp2
        go_ret
        exact ⟨_, rfl, hown2, hb2, ht2.out⟩
end Go.Proofs.YtofdbnkeddcdjaaDoor
