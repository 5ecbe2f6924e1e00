/- The table of operations as it lies; what an instruction takes and gives, where it goes on. -/
import Derived.Test.YtoiibphbogpojaaDoorRows
import Derived.Test.YtoiibphbogpojaaDoorCodP
import Derived.RowKit
import Derived.BigQuiet
import Derived.Deep.CutBlock
namespace Go.Proofs.YtoiibphbogpojaaDoor
open Go Go.RowKit
set_option linter.unusedVariables false
set_option linter.unusedSimpArgs false
namespace Cod
def opC (x : Op4) : List Value := [.string x.nm, .int .u8 x.k, .int .i64 x.t, .int .i64 x.a]
theorem opCs_at : ∀ (l : List Op4) (i : Nat) (hi : i < l.length) (j : Nat), j < 4 → (l.flatMap opC)[i * 4 + j]? = (opC l[i])[j]?
  | t :: l, 0, _, j, hj => by
    rw [List.flatMap_cons, List.getElem?_append_left (by show _ < 4; omega)]
    simp
  | t :: l, i + 1, hi, j, hj => by
    have e : (i + 1) * 4 + j = (opC t).length + (i * 4 + j) := by show _ = 4 + _; omega
    rw [List.flatMap_cons, e, List.getElem?_append_right (by omega), Nat.add_sub_cancel_left]
    exact opCs_at l i (by simpa using hi) j hj
/-- The table of operations lies where the program has it. -/
def Ops (w : World) : Prop := 0 < w.heap.size ∧ ∀ j v, (opsT.flatMap opC)[j]? = some v → w.cell? ⟨0, j, none⟩ = some v
theorem Ops.below {w w' : World} {B : Nat} (h : Ops w) (hb : Below B w w') (hB : w.heap.size ≤ B) : Ops w' :=
  ⟨Nat.lt_of_lt_of_le h.1 hb.size, fun j v hv => (hb.cell (p := ⟨0, j, none⟩) (Nat.lt_of_lt_of_le h.1 hB)).trans (h.2 j v hv)⟩
theorem Ops.at_ {w : World} (h : Ops w) {o : Nat} (ho : o < 30) :
    w.cell? ⟨0, o * 4, none⟩ = some (.string (opO o).nm) ∧ w.cell? ⟨0, o * 4 + 1, none⟩ = some (.int .u8 (numK o)) ∧ w.cell? ⟨0, o * 4 + 2, none⟩ = some (.int .i64 (tkO o)) ∧ w.cell? ⟨0, o * 4 + 3, none⟩ = some (.int .i64 (adO o)) := by
  have hl : o < opsT.length := ho
  have e : opO o = opsT[o] := by
    unfold opO
    rw [Int.toNat_natCast, List.getD_eq_getElem?_getD, List.getElem?_eq_getElem hl]
    rfl
  unfold numK tkO adO
  rw [e]
  exact ⟨h.2 _ _ (by have := opCs_at opsT o hl 0 (by omega); simpa [opC] using this), h.2 _ _ (by have := opCs_at opsT o hl 1 (by omega); simpa [opC] using this), h.2 _ _ (by have := opCs_at opsT o hl 2 (by omega); simpa [opC] using this), h.2 _ _ (by have := opCs_at opsT o hl 3 (by omega); simpa [opC] using this)⟩
theorem ops_small : ∀ x ∈ opsT, 0 ≤ x.t ∧ x.t ≤ 2 ∧ 0 ≤ x.a ∧ x.a ≤ 2 ∧ 0 ≤ x.k ∧ x.k ≤ 6 := by
  intro x hx
  simp only [opsT, List.mem_cons, List.not_mem_nil, or_false] at hx
  rcases hx with rfl | rfl | rfl | rfl | rfl | rfl | rfl | rfl | rfl | rfl | rfl | rfl | rfl | rfl | rfl | rfl | rfl | rfl | rfl | rfl | rfl | rfl | rfl | rfl | rfl | rfl | rfl | rfl | rfl | rfl <;> decide
theorem opO_small (op : Int) : 0 ≤ tkO op ∧ tkO op ≤ 2 ∧ 0 ≤ adO op ∧ adO op ≤ 2 ∧ 0 ≤ numK op ∧ numK op ≤ 6 := by
  unfold tkO adO numK opO
  rcases Nat.lt_or_ge op.toNat opsT.length with h | h
  · have e : opsT.getD op.toNat default = opsT[op.toNat] := by rw [List.getD_eq_getElem?_getD, List.getElem?_eq_getElem h]; rfl
    rw [e]
    exact ops_small _ (List.getElem_mem h)
  · have e : opsT.getD op.toNat default = default := by rw [List.getD_eq_getElem?_getD, List.getElem?_eq_none h]; rfl
    rw [e]
    exact ⟨by decide, by decide, by decide, by decide, by decide, by decide⟩
def In.val (x : In) : Value := .agg #[.int .u8 x.op, .int .i64 x.n]
set_option maxRecDepth 100000 in
theorem Name_c (o : Nat) (ho : o < 256) (w : World) (h : Ops w) : Calls Tryd.prog 50 #[.int .u8 o] w fun e w' => e = .returned (.string (opO o).nm) ∧ w = w' := by
  have cv : IntKind.i64.wrap (o : Int) = (o : Int) := by rw [IntKind.wrap_i64]; omega
  by_cases h30 : o < 30
  · obtain ⟨c0, _, _, _⟩ := h.at_ h30
    have hI : ¬ (30 : Int) ≤ (o : Int) := by omega
    have hI2 : (o : Int) < 30 := by omega
    generalize (opO o).nm = s at *
    go_enter Tryd.func50, Tryd.ntmps50
    go_wp2_with fail
    go_ret
    exact ⟨rfl, rfl⟩
  · have hI : (30 : Int) ≤ (o : Int) := by omega
    have e : (opO o).nm = ⟨#[]⟩ := by
      unfold opO
      rw [Int.toNat_natCast, List.getD_eq_getElem?_getD, List.getElem?_eq_none (by show 30 ≤ o; omega)]
      rfl
    rw [e]
    go_enter Tryd.func50, Tryd.ntmps50
    go_wp2_with fail
    go_ret
    exact ⟨rfl, rfl⟩
def behI (x : In) (h : Int) : Int := h - tkI x + adO x.op
def okS (x : In) (h : Int) : Bool := decide (tkI x ≤ h) && decide (behI x h ≤ 200)
theorem stepI_ok {x : In} {h : Int} (k : okS x h = true) : stepI x h = some (behI x h) := by
  unfold okS at k
  simp only [Bool.and_eq_true, decide_eq_true_eq] at k
  exact if_pos k
theorem stepI_no {x : In} {h : Int} (k : okS x h = false) : stepI x h = none := by
  refine if_neg fun h2 => ?_
  unfold okS behI at k
  rw [decide_eq_true h2.1, decide_eq_true h2.2] at k
  cases k
set_option maxRecDepth 100000 in
set_option maxHeartbeats 2000000 in
theorem step_c (o : Nat) (n h : Int) (ho : o < 30) (hn : o = 28 → 0 ≤ n) (h0 : 0 ≤ h) (h1 : h ≤ 200) (w : World) (H : Ops w) :
    Calls Tryd.prog 48 #[In.val ⟨o, n⟩, .int .i64 h] w fun e w' => e = .returned (.tuple #[.int .i64 (behI ⟨o, n⟩ h), .bool (okS ⟨o, n⟩ h)]) ∧ Below w.heap.size w w' := by
  have hb := (Below.refl w.heap.size w).alloc (Nat.le_refl _) (.cells #[.int .u8 o, .int .i64 n] 23)
  obtain ⟨_, _, c2, c3⟩ := (H.below hb (Nat.le_refl _)).at_ ho
  obtain ⟨t0, t1, a0, a1, _, _⟩ := opO_small o
  have bk := Blk.new w 23 #[.int .u8 o, .int .i64 n]
  have d0 := bk.cell 0
  have d1 := bk.cell 1
  simp only [List.getElem?_toArray, List.getElem?_cons_zero, List.getElem?_cons_succ] at d0 d1
  have RES : Hid (∀ t, tkI ⟨o, n⟩ = t → okS ⟨o, n⟩ h = (decide (t ≤ h) && decide (h - t + adO o ≤ 200)) ∧ behI ⟨o, n⟩ h = h - t + adO o) := hide fun t ht => by
    unfold okS behI
    rw [ht]
    exact ⟨rfl, rfl⟩
  have HB := hide hb
  unfold In.val
  simp only
  clear hb bk H
  have TK : Hid (tkI ⟨o, n⟩ = if (o : Int) = 28 then n % 1024 / 32 else tkO o) := hide rfl
  generalize okS ⟨o, n⟩ h = ok at *
  generalize behI ⟨o, n⟩ h = bh at *
  generalize tkI ⟨o, n⟩ = t at *
  generalize tkO o = t' at *
  generalize adO o = a' at *
  have oI : (o : Int) < 30 := by omega
  have fin : ∀ (t : Int) (hh : 0 ≤ t) (ht2 : t ≤ 40), IntKind.i64.wrap (h - t) = h - t ∧ IntKind.i64.wrap (h - t + a') = h - t + a' := fun t hh ht2 => by
    rw [IntKind.wrap_i64, IntKind.wrap_i64]
    omega
  have r1 : 0 ≤ n → Int.tmod n 1024 = n % 1024 := fun hn' => Int.tmod_eq_emod_of_nonneg hn'
  have r2 : Int.tdiv (n % 1024) 32 = n % 1024 / 32 := Int.tdiv_eq_ediv_of_nonneg (by omega)
  obtain ⟨r3, r4⟩ := RES.out _ rfl
  obtain ⟨q5, q6⟩ := fin t' t0 (by omega)
  clear RES
  by_cases h28 : o = 28
  · have e28 : ((o : Int) == 28) = true := by simp [h28]
    have e28' : (o : Int) = 28 := by omega
    have hn' := hn h28
    have r1 := r1 hn'
    have ht : t = n % 1024 / 32 := TK.out.trans (if_pos e28')
    have tle : t ≤ 40 := by omega
    obtain ⟨r5, r6⟩ := fin t (by omega) tle
    rw [ht] at r3 r4 r5 r6
    have r7 : IntKind.i64.wrap (n % 1024 / 32) = n % 1024 / 32 := by rw [IntKind.wrap_i64]; omega
    have HT := hide ht
    clear fin TK ht q5 q6 e28' hn h28 tle
    go_enter Tryd.func48, Tryd.ntmps48
    go_upto_region 1 with (fail)
    generalize w.alloc (.cells #[.int .u8 (o : Int), .int .i64 n] 23) = w1 at *
    go_wp2_with fail
    all_goals
      rename_i hx
      first
        | exact bodyPost_ret (v := .tuple #[.int .i64 (h - n % 1024 / 32 + a'), .bool (decide (h - n % 1024 / 32 + a' ≤ 200))]) (by simp [results, Tryd.results48, go_sem]) rfl ⟨by (try rw [r4]); (try rw [r3]); rw [decide_eq_true (show n % 1024 / 32 ≤ h by omega)]; rfl, HB.out⟩
        | exact bodyPost_ret (v := .tuple #[.int .i64 (h - n % 1024 / 32 + a'), .bool false]) (by simp [results, Tryd.results48, go_sem]) rfl ⟨by (try rw [r4]); (try rw [r3]); rw [decide_eq_false (show ¬ n % 1024 / 32 ≤ h by omega)]; rfl, HB.out⟩
  · have e28 : ((o : Int) == 28) = false := by rw [beq_eq_false_iff_ne]; omega
    have ht : t = t' := TK.out.trans (if_neg (by omega))
    subst ht
    clear fin TK r1 r2 hn h28
    go_enter Tryd.func48, Tryd.ntmps48
    go_upto_region 1 with (fail)
    generalize w.alloc (.cells #[.int .u8 (o : Int), .int .i64 n] 23) = w1 at *
    go_wp2_with fail
    all_goals
      rename_i hx
      first
        | exact bodyPost_ret (v := .tuple #[.int .i64 (h - t + a'), .bool (decide (h - t + a' ≤ 200))]) (by simp [results, Tryd.results48, go_sem]) rfl ⟨by (try rw [r4]); (try rw [r3]); rw [decide_eq_true (show t ≤ h by omega)]; rfl, HB.out⟩
        | exact bodyPost_ret (v := .tuple #[.int .i64 (h - t + a'), .bool false]) (by simp [results, Tryd.results48, go_sem]) rfl ⟨by (try rw [r4]); (try rw [r3]); rw [decide_eq_false (show ¬ t ≤ h by omega)]; rfl, HB.out⟩
set_option maxRecDepth 100000 in
set_option maxHeartbeats 2000000 in
theorem ways_c (o : Nat) (n : Int) (a : Nat) (hn : o = 22 ∨ o = 23 ∨ o = 24 → 0 ≤ n ∧ n ≤ 100000) (ha : a ≤ 100000) (ho : o < 30) (w : World) :
    Calls Tryd.prog 49 #[In.val ⟨o, n⟩, .int .i64 a] w fun e w' => (∃ A, e = .returned (.slice A (waysI ⟨o, n⟩ a).length (waysI ⟨o, n⟩ a).length) ∧ ∀ j (hj : j < (waysI ⟨o, n⟩ a).length), ∃ g, A = some ⟨g, 0, none⟩ ∧ w.heap.size ≤ g ∧ g < w'.heap.size ∧ w'.cell? ⟨g, j, none⟩ = some (.int .i64 ((waysI ⟨o, n⟩ a)[j] : Nat))) ∧ Below w.heap.size w w' := by
  have hb := (Below.refl w.heap.size w).alloc (Nat.le_refl _) (.cells #[.int .u8 o, .int .i64 n] 23)
  have bk := Blk.new w 23 #[.int .u8 o, .int .i64 n]
  have d0 := bk.cell 0
  have d1 := bk.cell 1
  simp only [List.getElem?_toArray, List.getElem?_cons_zero, List.getElem?_cons_succ] at d0 d1
  have HB := hide hb
  have w1a : IntKind.i64.wrap ((a : Int) + 1) = (a : Int) + 1 := by rw [IntKind.wrap_i64]; omega
  unfold In.val
  simp only
  clear hb bk
  by_cases h29 : o = 29
  · have e29 : ((o : Int) == 29) = true := by simp [h29]
    have E : waysI ⟨o, n⟩ a = [] := if_pos (by show (o : Int) = 29; omega)
    rw [E]
    clear h29 hn
    go_enter Tryd.func49, Tryd.ntmps49
    go_upto_region 1 with (fail)
    generalize w.alloc (.cells #[.int .u8 (o : Int), .int .i64 n] 23) = w1 at *
    go_wp2_with fail
    go_ret
    exact ⟨⟨none, rfl, fun j hj => absurd hj (Nat.not_lt_zero j)⟩, HB.out⟩
  have e29 : ((o : Int) == 29) = false := by rw [beq_eq_false_iff_ne]; omega
  have n29 : ¬ (o : Int) = 29 := by omega
  by_cases h22 : o = 22
  · have e22 : ((o : Int) == 22) = true := by simp [h22]
    obtain ⟨k, rfl⟩ : ∃ k : Nat, n = (k : Int) := ⟨n.toNat, by have := hn (.inl h22); omega⟩
    have E : waysI ⟨o, (k : Int)⟩ a = [k] := by
      unfold waysI
      rw [if_neg n29, if_pos (show (o : Int) = 22 by omega)]
      simp
    rw [E]
    clear h22 hn h29
    go_enter Tryd.func49, Tryd.ntmps49
    go_upto_region 1 with (fail)
    generalize w.alloc (.cells #[.int .u8 (o : Int), .int .i64 (k : Int)] 23) = w1 at *
    go_wp2_with fail
    go_ret
    refine ⟨⟨_, rfl, fun j hj => ⟨_, rfl, HB.out.size, (Blk.new w1 3 #[.int .i64 k]).lt, ?_⟩⟩, HB.out.alloc HB.out.size _⟩
    obtain rfl : j = 0 := by simpa using hj
    exact (Blk.new w1 3 #[.int .i64 k]).cell 0
  have e22 : ((o : Int) == 22) = false := by rw [beq_eq_false_iff_ne]; omega
  have n22 : ¬ (o : Int) = 22 := by omega
  by_cases h23 : o = 23 ∨ o = 24
  · obtain ⟨k, rfl⟩ : ∃ k : Nat, n = (k : Int) := ⟨n.toNat, by have := hn (.inr h23); omega⟩
    have E : waysI ⟨o, (k : Int)⟩ a = [k, a + 1] := by
      unfold waysI
      rw [if_neg n29, if_neg n22, if_pos (show (o : Int) = 23 ∨ (o : Int) = 24 by omega)]
      simp
    rw [E]
    have FIN := hide (fun (w1 : World) (hB9 : w.heap.size ≤ w1.heap.size) => show ∀ j (hj : j < [k, a + 1].length), ∃ g, (some ⟨w1.heap.size, 0, none⟩ : Option Addr) = some ⟨g, 0, none⟩ ∧ w.heap.size ≤ g ∧ g < (w1.alloc (.cells #[.int .i64 k, .int .i64 ((a : Int) + 1)] 3)).heap.size ∧ (w1.alloc (.cells #[.int .i64 k, .int .i64 ((a : Int) + 1)] 3)).cell? ⟨g, j, none⟩ = some (.int .i64 ([k, a + 1][j] : Nat)) from fun j hj => ⟨_, rfl, hB9, (Blk.new w1 3 #[.int .i64 k, .int .i64 ((a : Int) + 1)]).lt, by
      have : j = 0 ∨ j = 1 := by simp at hj; omega
      rcases this with rfl | rfl
      · exact (Blk.new w1 3 #[.int .i64 k, .int .i64 ((a : Int) + 1)]).cell 0
      · exact (Blk.new w1 3 #[.int .i64 k, .int .i64 ((a : Int) + 1)]).cell 1⟩)
    rcases h23 with h23 | h23
    · have e23 : ((o : Int) == 23) = true := by simp [h23]
      clear h22 hn h29 h23
      go_enter Tryd.func49, Tryd.ntmps49
      go_upto_region 1 with (fail)
      generalize w.alloc (.cells #[.int .u8 (o : Int), .int .i64 (k : Int)] 23) = w1 at *
      go_wp2_with fail
      go_ret
      exact ⟨⟨_, rfl, FIN.out w1 HB.out.size⟩, HB.out.alloc HB.out.size _⟩
    · have e23 : ((o : Int) == 23) = false := by simp [h23]
      have e24 : ((o : Int) == 24) = true := by simp [h23]
      clear h22 hn h29 h23
      go_enter Tryd.func49, Tryd.ntmps49
      go_upto_region 1 with (fail)
      generalize w.alloc (.cells #[.int .u8 (o : Int), .int .i64 (k : Int)] 23) = w1 at *
      go_wp2_with fail
      go_ret
      exact ⟨⟨_, rfl, FIN.out w1 HB.out.size⟩, HB.out.alloc HB.out.size _⟩
  · have e23 : ((o : Int) == 23) = false := by rw [beq_eq_false_iff_ne]; omega
    have e24 : ((o : Int) == 24) = false := by rw [beq_eq_false_iff_ne]; omega
    have E : waysI ⟨o, n⟩ a = [a + 1] := by
      unfold waysI
      rw [if_neg n29, if_neg n22, if_neg (show ¬ ((o : Int) = 23 ∨ (o : Int) = 24) by omega)]
    rw [E]
    clear h22 hn h29 h23
    go_enter Tryd.func49, Tryd.ntmps49
    go_upto_region 1 with (fail)
    generalize w.alloc (.cells #[.int .u8 (o : Int), .int .i64 n] 23) = w1 at *
    go_wp2_with fail
    go_ret
    refine ⟨⟨_, rfl, fun j hj => ⟨_, rfl, HB.out.size, (Blk.new w1 3 #[.int .i64 ((a : Int) + 1)]).lt, ?_⟩⟩, HB.out.alloc HB.out.size _⟩
    obtain rfl : j = 0 := by simpa using hj
    exact (Blk.new w1 3 #[.int .i64 ((a : Int) + 1)]).cell 0
end Cod
end Go.Proofs.YtoiibphbogpojaaDoor
