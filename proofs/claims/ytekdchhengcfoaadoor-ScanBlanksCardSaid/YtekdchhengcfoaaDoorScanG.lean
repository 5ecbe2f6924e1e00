/- The program's words: blanks, and the word with which a text begins. -/
import Derived.Test.YtekdchhengcfoaaDoorRows
import Derived.Test.YtekdchhengcfoaaDoorScanF
namespace Go.Proofs.YtekdchhengcfoaaDoor
open Go.RowKit
set_option linter.unusedVariables false
set_option linter.unusedSimpArgs false
def isBlk (c : Int) : Bool := c == 9 || c == 13 || c == 32
set_option maxRecDepth 100000 in
theorem blank_a (c : Int) (w : World) : Calls Tryd.prog 24 #[.int .i32 c] w fun e w' => e = .returned (.bool (isBlk c)) ∧ w = w' := by
  by_cases h1 : c = 9
  · subst h1
    go_enter Tryd.func24, Tryd.ntmps24
    go_wp2_with fail
    go_ret
    exact ⟨rfl, rfl⟩
  have h1' : (c == 9) = false := by simpa using h1
  by_cases h2 : c = 13
  · subst h2
    go_enter Tryd.func24, Tryd.ntmps24
    go_wp2_with fail
    go_ret
    exact ⟨rfl, rfl⟩
  have h2' : (c == 13) = false := by simpa using h2
  have E := hide (show isBlk c = (c == 32) by simp only [isBlk, h1', h2', Bool.false_or])
  clear h1 h2
  go_enter Tryd.func24, Tryd.ntmps24
  go_wp2_with fail
  go_ret
  exact ⟨by rw [E.out]; rfl, rfl⟩
theorem ext_size (t : ByteArray) (r : Nat) (h : r ≤ t.size) : (t.extract 0 r).size = r := by
  rw [ByteArray.size_extract]; omega
theorem ext_get (t : ByteArray) (r : Nat) (h : r ≤ t.size) (j : Nat) (hj : j < (t.extract 0 r).size) : (t.extract 0 r)[j] = t[j]'(by rw [ext_size t r h] at hj; omega) := by
  rw [ByteArray.getElem_extract]; simp
theorem signFrom_le (t : ByteArray) (k : Nat) : signFrom t k ≤ t.size := by
  unfold signFrom
  rcases signFromL_of t (signsB.drop k) with h | ⟨p, _, h1, h2⟩
  · omega
  · simp only [hpB, Bool.and_eq_true, decide_eq_true_eq] at h1
    omega
/-- What the word at a text's beginning is told as. -/
def WordR (t : ByteArray) (e : Ending) : Prop := ∃ (k v : Int) (s : ByteArray) (b : Bool), e = .returned (.tuple #[.agg #[.int .u8 k, .string s, .int .i64 v, .int .i64 0, .int .i64 0], .bool b]) ∧
  (∀ k' n v', wordOf t = some (k', n, v') → k = k' ∧ s = t.extract 0 n ∧ v = v' ∧ b = true) ∧ (wordOf t = none → b = false)
theorem letters_c (x : ByteArray) (w : World) (hx : x.size ≤ 9223372036854775807) : Calls Tryd.prog 38 #[.string x] w fun e w' =>
    ∃ (k : Int) (b : Bool), e = .returned (.tuple #[.agg #[.int .u8 k, .string x, .int .i64 0, .int .i64 0, .int .i64 0], .bool b]) ∧ Hid (k = (if wordB x.toList then 3 else 1) ∧ b = (wordB x.toList || decide (x.size ≤ 12))) ∧ Below w.heap.size w w' := by
  refine (letters_a x w hx).mono ?_
  rintro e w' ⟨rfl, h⟩
  exact ⟨_, _, rfl, hide ⟨rfl, rfl⟩, h⟩
theorem number_c (x : ByteArray) (w : World) (hx : x.size ≤ 9223372036854775807) (h0 : 0 < x.size) (hd : ∀ j (h : j < x.size), isDig (x[j]).toNat = true) : Calls Tryd.prog 40 #[.string x] w fun e w' =>
    ∃ (k v : Int) (s : ByteArray) (b : Bool), e = .returned (.tuple #[.agg #[.int .u8 k, .string s, .int .i64 v, .int .i64 0, .int .i64 0], .bool b]) ∧
      Hid (if 18 < x.size ∨ ((x[0]).toNat = 48 ∧ 1 < x.size) then b = false else k = 2 ∧ s = x ∧ v = numOf x.data.toList ∧ b = true) ∧ Below w.heap.size w w' := by
  refine (number_a x w hx h0 hd).mono ?_
  rintro e w' ⟨h1, h⟩
  by_cases hc : 18 < x.size ∨ ((x[0]).toNat = 48 ∧ 1 < x.size)
  · rw [if_pos hc] at h1
    exact ⟨_, _, _, _, h1, hide (by rw [if_pos hc]), h⟩
  · rw [if_neg hc] at h1
    exact ⟨_, _, _, _, h1, hide (by rw [if_neg hc]; exact ⟨rfl, rfl, rfl, rfl⟩), h⟩
set_option maxRecDepth 100000 in
set_option maxHeartbeats 2000000 in
theorem wordAt_a (t : ByteArray) (w : World) (ht : t.size ≤ 9223372036854775807) (h0 : 0 < t.size) (hg : Sg w) : Calls Tryd.prog 25 #[.string t] w fun e w' => WordR t e ∧ Below w.heap.size w w' := by
  have p0 : (0 : Int) < (t.size : Int) := by omega
  have G := hide (hg.below ((Below.refl _ w).alloc (Nat.le_refl _) (.cells #[.int .u8 0, .string ⟨#[]⟩, .int .i64 0, .int .i64 0, .int .i64 0] 31)))
  have b0 := hide (Blk.new w 31 #[.int .u8 0, .string ⟨#[]⟩, .int .i64 0, .int .i64 0, .int .i64 0])
  have B0 := hide ((Below.refl _ w).alloc (Nat.le_refl _) (.cells #[.int .u8 0, .string ⟨#[]⟩, .int .i64 0, .int .i64 0, .int .i64 0] 31))
  have S0 := hide (show w.heap.size < (w.alloc (.cells #[.int .u8 0, .string ⟨#[]⟩, .int .i64 0, .int .i64 0, .int .i64 0] 31)).heap.size by simp)
  clear hg
  by_cases h1 : isLet (t[0]).toNat = true
  · have r1 := runFrom_le isLod t t.size 0 (by omega) (by omega)
    have E := hide (show wordOf t = (if wordB (t.extract 0 (runFrom isLod t 0)).toList then some (3, runFrom isLod t 0, 0) else if runFrom isLod t 0 ≤ 12 then some (1, runFrom isLod t 0, 0) else none) by unfold wordOf; rw [dif_pos h0, if_pos h1])
    have Z := hide (ext_size t _ r1)
    have r2 : (runFrom isLod t 0 : Int) ≤ (t.size : Int) := by omega
    go_enter Tryd.func25, Tryd.ntmps25
    go_wp2_with (first | (go_at_call 28; refine (let_a _ _).mono ?_; rintro e w' ⟨rfl, rfl⟩) | (go_at_call 29; refine (row_lod t _ ht).mono ?_; rintro e w1 ⟨rfl, hb1⟩; have HB1 := hide hb1; clear hb1) | (go_at_call 38; refine (letters_c _ _ (by rw [Z.out]; omega)).mono ?_; rintro e wr ⟨k, b, rfl, HK, hb2⟩; have K0 := hide (b0.out.below (HB1.out.trans (hb2.mono HB1.out.size)) S0.out); have BB := hide (B0.out.trans ((HB1.out.trans (hb2.mono HB1.out.size)).mono (Nat.le_of_lt S0.out))); have c0 := K0.out.cell 0; have c1 := K0.out.cell 1; have c2 := K0.out.cell 2; have c3 := K0.out.cell 3; have c4 := K0.out.cell 4; simp only [List.getElem?_toArray, List.getElem?_cons_zero, List.getElem?_cons_succ] at c0 c1 c2 c3 c4; have f0 := K0.out.frozen 0; have f1 := K0.out.frozen 1; have f2 := K0.out.frozen 2; have f3 := K0.out.frozen 3; have f4 := K0.out.frozen 4; clear hb2))
    have KF := (((((K0.out.set_ 0 (.int .u8 k)).set_ 1 (.string (t.extract 0 (runFrom isLod t 0)))).set_ 2 (.int .i64 0)).set_ 3 (.int .i64 0)).set_ 4 (.int .i64 0))
    have BF := (((((BB.out.setCell (p := ⟨w.heap.size, 0, none⟩) (Nat.le_refl _) (.int .u8 k)).setCell (p := ⟨w.heap.size, 1, none⟩) (Nat.le_refl _) (.string (t.extract 0 (runFrom isLod t 0)))).setCell (p := ⟨w.heap.size, 2, none⟩) (Nat.le_refl _) (.int .i64 0)).setCell (p := ⟨w.heap.size, 3, none⟩) (Nat.le_refl _) (.int .i64 0)).setCell (p := ⟨w.heap.size, 4, none⟩) (Nat.le_refl _) (.int .i64 0))
    generalize (((((wr.setCell ⟨w.heap.size, 0, none⟩ (.int .u8 k)).setCell ⟨w.heap.size, 1, none⟩ (.string (t.extract 0 (runFrom isLod t 0)))).setCell ⟨w.heap.size, 2, none⟩ (.int .i64 0)).setCell ⟨w.heap.size, 3, none⟩ (.int .i64 0)).setCell ⟨w.heap.size, 4, none⟩ (.int .i64 0)) = W5 at *
    have d0 := KF.cell 0
    have d1 := KF.cell 1
    have d2 := KF.cell 2
    have d3 := KF.cell 3
    have d4 := KF.cell 4
    simp at d0 d1 d2 d3 d4
    refine bodyPost_ret (v := .tuple #[.agg #[.int .u8 k, .string (t.extract 0 (runFrom isLod t 0)), .int .i64 0, .int .i64 0, .int .i64 0], .bool b]) (by simp [results, Tryd.results25, go_sem, d0, d1, d2, d3, d4]) rfl ⟨⟨_, _, _, _, rfl, ?_, ?_⟩, BF⟩
    · intro k' n v' hw
      rw [E.out] at hw
      obtain ⟨e1, e2⟩ := HK.out
      by_cases hb : wordB (t.extract 0 (runFrom isLod t 0)).toList = true
      · rw [if_pos hb] at hw e1
        simp only [Option.some.injEq, Prod.mk.injEq] at hw
        obtain ⟨rfl, rfl, rfl⟩ := hw
        exact ⟨e1, rfl, rfl, by rw [e2, hb]; rfl⟩
      · rw [if_neg hb] at hw e1
        split at hw
        · rename_i hl
          simp only [Option.some.injEq, Prod.mk.injEq] at hw
          obtain ⟨rfl, rfl, rfl⟩ := hw
          exact ⟨e1, rfl, rfl, by rw [e2, Z.out, decide_eq_true hl, Bool.or_true]⟩
        · cases hw
    · intro hw
      rw [E.out] at hw
      obtain ⟨e1, e2⟩ := HK.out
      by_cases hb : wordB (t.extract 0 (runFrom isLod t 0)).toList = true
      · rw [if_pos hb] at hw; cases hw
      · rw [if_neg hb] at hw
        split at hw
        · cases hw
        · rename_i hl
          rw [e2, Z.out, decide_eq_false hl, Bool.or_false]
          simpa using hb
  have h1 : isLet (t[0]).toNat = false := by simpa using h1
  by_cases h2 : isDig (t[0]).toNat = true
  · have r1 := runFrom_le isDig t t.size 0 (by omega) (by omega)
    have h128 : (t[0]).toNat < 128 := by
      have := h2
      simp [isDig] at this
      omega
    have r0 : 0 < runFrom isDig t 0 := by
      rw [runFrom_go h0 ⟨h128, h2⟩]
      exact runFrom_ge isDig t _ 1 rfl
    have E := hide (show wordOf t = (if 18 < runFrom isDig t 0 ∨ ((t[0]).toNat = 48 ∧ 1 < runFrom isDig t 0) then none else some (2, runFrom isDig t 0, numOf (t.extract 0 (runFrom isDig t 0)).data.toList)) by unfold wordOf; rw [dif_pos h0, if_neg (by simp [h1]), if_pos h2])
    have Z := hide (ext_size t _ r1)
    have X0 : Hid (∀ h : 0 < (t.extract 0 (runFrom isDig t 0)).size, (t.extract 0 (runFrom isDig t 0))[0] = t[0]) := hide fun h => ext_get t _ r1 0 h
    have XD : Hid (∀ j (h : j < (t.extract 0 (runFrom isDig t 0)).size), isDig ((t.extract 0 (runFrom isDig t 0))[j]).toNat = true) := hide fun j h => by
      rw [ext_get t _ r1 j h]
      obtain ⟨_, _, h3⟩ := runFrom_all isDig t _ 0 rfl j (Nat.zero_le _) (by rw [ext_size t _ r1] at h; exact h)
      exact h3
    have r2 : (runFrom isDig t 0 : Int) ≤ (t.size : Int) := by omega
    go_enter Tryd.func25, Tryd.ntmps25
    go_wp2_with (first | (go_at_call 28; refine (let_a _ _).mono ?_; rintro e w' ⟨rfl, rfl⟩) | (go_at_call 39; refine (dig_a _ _).mono ?_; rintro e w' ⟨rfl, rfl⟩) | (go_at_call 29; refine (row_dig t _ ht).mono ?_; rintro e w1 ⟨rfl, hb1⟩; have HB1 := hide hb1; clear hb1) | (go_at_call 40; refine (number_c _ _ (by rw [Z.out]; omega) (by rw [Z.out]; exact r0) XD.out).mono ?_; rintro e wr ⟨k, v, s, b, rfl, HK, hb2⟩; have K0 := hide (b0.out.below (HB1.out.trans (hb2.mono HB1.out.size)) S0.out); have BB := hide (B0.out.trans ((HB1.out.trans (hb2.mono HB1.out.size)).mono (Nat.le_of_lt S0.out))); have c0 := K0.out.cell 0; have c1 := K0.out.cell 1; have c2 := K0.out.cell 2; have c3 := K0.out.cell 3; have c4 := K0.out.cell 4; simp only [List.getElem?_toArray, List.getElem?_cons_zero, List.getElem?_cons_succ] at c0 c1 c2 c3 c4; have f0 := K0.out.frozen 0; have f1 := K0.out.frozen 1; have f2 := K0.out.frozen 2; have f3 := K0.out.frozen 3; have f4 := K0.out.frozen 4; clear hb2))
    have KF := (((((K0.out.set_ 0 (.int .u8 k)).set_ 1 (.string s)).set_ 2 (.int .i64 v)).set_ 3 (.int .i64 0)).set_ 4 (.int .i64 0))
    have BF := (((((BB.out.setCell (p := ⟨w.heap.size, 0, none⟩) (Nat.le_refl _) (.int .u8 k)).setCell (p := ⟨w.heap.size, 1, none⟩) (Nat.le_refl _) (.string s)).setCell (p := ⟨w.heap.size, 2, none⟩) (Nat.le_refl _) (.int .i64 v)).setCell (p := ⟨w.heap.size, 3, none⟩) (Nat.le_refl _) (.int .i64 0)).setCell (p := ⟨w.heap.size, 4, none⟩) (Nat.le_refl _) (.int .i64 0))
    generalize (((((wr.setCell ⟨w.heap.size, 0, none⟩ (.int .u8 k)).setCell ⟨w.heap.size, 1, none⟩ (.string s)).setCell ⟨w.heap.size, 2, none⟩ (.int .i64 v)).setCell ⟨w.heap.size, 3, none⟩ (.int .i64 0)).setCell ⟨w.heap.size, 4, none⟩ (.int .i64 0)) = W5 at *
    have d0 := KF.cell 0
    have d1 := KF.cell 1
    have d2 := KF.cell 2
    have d3 := KF.cell 3
    have d4 := KF.cell 4
    simp at d0 d1 d2 d3 d4
    refine bodyPost_ret (v := .tuple #[.agg #[.int .u8 k, .string s, .int .i64 v, .int .i64 0, .int .i64 0], .bool b]) (by simp [results, Tryd.results25, go_sem, d0, d1, d2, d3, d4]) rfl ⟨⟨_, _, _, _, rfl, ?_, ?_⟩, BF⟩
    · intro k' n v' hw
      rw [E.out] at hw
      have HK := HK.out
      rw [X0.out, Z.out] at HK
      split at hw
      · cases hw
      · rename_i hc
        rw [if_neg hc] at HK
        simp only [Option.some.injEq, Prod.mk.injEq] at hw
        obtain ⟨rfl, rfl, rfl⟩ := hw
        exact HK
    · intro hw
      rw [E.out] at hw
      have HK := HK.out
      rw [X0.out, Z.out] at HK
      split at hw
      · rename_i hc
        rwa [if_pos hc] at HK
      · cases hw
  have h2 : isDig (t[0]).toNat = false := by simpa using h2
  have E := hide (show wordOf t = (if 0 < signFrom t 0 then some (4, signFrom t 0, 0) else none) by unfold wordOf; rw [dif_pos h0, if_neg (by simp [h1]), if_neg (by simp [h2])])
  have r1 : (signFrom t 0 : Int) ≤ (t.size : Int) := by
    have := signFrom_le t 0
    omega
  have f0 := b0.out.frozen 0
  have f1 := b0.out.frozen 1
  have f2 := b0.out.frozen 2
  have f3 := b0.out.frozen 3
  have f4 := b0.out.frozen 4
  have c0 := b0.out.cell 0
  have c1 := b0.out.cell 1
  have c2 := b0.out.cell 2
  have c3 := b0.out.cell 3
  have c4 := b0.out.cell 4
  simp only [List.getElem?_toArray, List.getElem?_cons_zero, List.getElem?_cons_succ] at c0 c1 c2 c3 c4
  go_enter Tryd.func25, Tryd.ntmps25
  go_wp2_with (first | (go_at_call 28; refine (let_a _ _).mono ?_; rintro e w' ⟨rfl, rfl⟩) | (go_at_call 39; refine (dig_a _ _).mono ?_; rintro e w' ⟨rfl, rfl⟩) | (go_at_call 27; refine (sign_at t _ ht G.out).mono ?_; rintro e w' ⟨rfl, rfl⟩))
  refine bodyPost_ret (v := .tuple #[.agg #[.int .u8 4, .string (t.extract 0 (signFrom t 0)), .int .i64 0, .int .i64 0, .int .i64 0], .bool (decide (0 < signFrom t 0))]) (by simp [results, Tryd.results25, go_sem]) rfl ⟨⟨_, _, _, _, rfl, ?_, ?_⟩, (Below.refl _ w).alloc (Nat.le_refl _) _⟩
  · intro k' n v' hw
    rw [E.out] at hw
    split at hw
    · rename_i hl
      simp only [Option.some.injEq, Prod.mk.injEq] at hw
      obtain ⟨rfl, rfl, rfl⟩ := hw
      exact ⟨rfl, rfl, rfl, decide_eq_true hl⟩
    · cases hw
  · intro hw
    rw [E.out] at hw
    split at hw
    · cases hw
    · rename_i hl
      exact decide_eq_false hl
end Go.Proofs.YtekdchhengcfoaaDoor
