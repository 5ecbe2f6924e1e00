/- The reference's word at a place is the program's. -/
import Derived.Test.YtekdchhengcfoaaDoorRows
import Derived.Test.YtekdchhengcfoaaDoorScanQ
namespace Go.Proofs.YtekdchhengcfoaaDoor
open Go.RowKit
set_option linter.unusedVariables false
set_option linter.unusedSimpArgs false
/-- Where what begins at a place ends. -/
def endB (s : ByteArray) (pos : Nat) : Nat :=
  if h : pos < s.size then
    if isLet (s[pos]).toNat = true then runFrom isLod s pos
    else if isDig (s[pos]).toNat = true then runFrom isDig s pos
    else if pos + 1 < s.size ∧ signB (s.extract pos (pos + 2)).toList = true then pos + 2 else pos + 1
  else pos
theorem endB_let {s : ByteArray} {pos : Nat} (h : pos < s.size) (h1 : isLet (s[pos]).toNat = true) : endB s pos = runFrom isLod s pos := by unfold endB; rw [dif_pos h, if_pos h1]
theorem endB_dig {s : ByteArray} {pos : Nat} (h : pos < s.size) (h1 : isLet (s[pos]).toNat = false) (h2 : isDig (s[pos]).toNat = true) : endB s pos = runFrom isDig s pos := by unfold endB; rw [dif_pos h, if_neg (by simp [h1]), if_pos h2]
theorem endB_one {s : ByteArray} {pos : Nat} (h : pos < s.size) (h1 : isLet (s[pos]).toNat = false) (h2 : isDig (s[pos]).toNat = false) : endB s pos = if pos + 1 < s.size ∧ signB (s.extract pos (pos + 2)).toList = true then pos + 2 else pos + 1 := by unfold endB; rw [dif_pos h, if_neg (by simp [h1]), if_neg (by simp [h2])]
theorem endB_bd {s : ByteArray} {pos : Nat} (h : pos < s.size) : pos < endB s pos ∧ endB s pos ≤ s.size := by
  rcases h1 : isLet (s[pos]).toNat with _ | _
  · rcases h2 : isDig (s[pos]).toNat with _ | _
    · rw [endB_one h h1 h2]
      split <;> omega
    · rw [endB_dig h h1 h2, run_dig h, if_pos h2]
      exact ⟨runFrom_ge isDig s _ (pos + 1) rfl, runFrom_le isDig s _ (pos + 1) rfl (by omega)⟩
  · rw [endB_let h h1, run_let h, if_pos (by simp [h1])]
    exact ⟨runFrom_ge isLod s _ (pos + 1) rfl, runFrom_le isLod s _ (pos + 1) rfl (by omega)⟩
theorem end_b (x : Addr) (cap : Nat) (s : ByteArray) (pos : Nat) (w : World) (hs : s.size ≤ 20000) (hcap : s.size ≤ cap) (hp : pos < s.size) (hx : Lies w x s) :
    Calls Tryd.prog 22 #[.slice (some x) s.size cap, .int .i64 pos] w fun e w' => e = .returned (.int .i64 (endB s pos)) ∧ w = w' := by
  rcases h1 : isLet (s[pos]).toNat with _ | _
  · rcases h2 : isDig (s[pos]).toNat with _ | _
    · rw [endB_one hp h1 h2]
      exact end_one x cap s pos w hs hcap hp hx h1 h2
    · rw [endB_dig hp h1 h2]
      exact end_dig x cap s pos w hs hp hx h1 h2
  · rw [endB_let hp h1]
    exact end_let x cap s pos w hs hp hx h1
/-- The reference's word at a place. -/
def OfR (s : ByteArray) (pos : Nat) (e : Ending) : Prop := ∃ k v : Int, e = .returned (.agg #[.int .u8 k, .string (s.extract pos (endB s pos)), .int .i64 v, .int .i64 0, .int .i64 0]) ∧
  (∀ k' n v', wordOf (s.extract pos s.size) = some (k', n, v') → k = k' ∧ endB s pos = pos + n ∧ v = v' ∧ 1 ≤ k ∧ k ≤ 4) ∧ (wordOf (s.extract pos s.size) = none → k = 0)
theorem of_b (s : ByteArray) (pos : Nat) (w : World) (hs : s.size ≤ 20000) (hp : pos < s.size) :
    Calls Tryd.prog 23 #[.string (s.extract pos (endB s pos))] w fun e w' => OfR s pos e ∧ Below w.heap.size w w' := by
  obtain ⟨b0, b1⟩ := endB_bd hp
  have ht0 : 0 < (s.extract pos s.size).size := by rw [tail_size]; omega
  have ht1 : (s.extract pos s.size)[0] = s[pos] := tail_get s pos 0 ht0
  have hxs : (s.extract pos (endB s pos)).size = endB s pos - pos := by rw [ByteArray.size_extract]; omega
  have hx0 : 0 < (s.extract pos (endB s pos)).size := by omega
  have hx1 : (s.extract pos (endB s pos))[0] = s[pos] := by rw [ByteArray.getElem_extract]; rfl
  have hxt : (s.extract pos s.size).extract 0 (endB s pos - pos) = s.extract pos (endB s pos) := by
    rw [ext_ext s pos _ (by omega)]
    congr 1
    omega
  rcases h1 : isLet (s[pos]).toNat with _ | _
  · rcases h2 : isDig (s[pos]).toNat with _ | _
    · refine (of_no _ w (by omega) hx0 (by rw [hx1]; exact h2)).mono ?_
      rintro e w' ⟨rfl, hb⟩
      have hw : wordB (s.extract pos (endB s pos)).toList = false := wordB_false (by rintro ⟨_, h3⟩; rw [hx1, h1] at h3; cases h3)
      have hn : nameB (s.extract pos (endB s pos)) = false := nameB_false (by rintro ⟨_, h3⟩; rw [hx1, h1] at h3; cases h3)
      have hW : wordOf (s.extract pos s.size) = if 0 < signFrom (s.extract pos s.size) 0 then some (4, signFrom (s.extract pos s.size) 0, 0) else none := by
        unfold wordOf
        rw [dif_pos ht0, if_neg (by rw [ht1, h1]; simp), if_neg (by rw [ht1, h2]; simp)]
      rw [hw, hn]
      have e1 := endB_one hp h1 h2
      have key : signFrom (s.extract pos s.size) 0 = if signB (s.extract pos (endB s pos)).toList = true then endB s pos - pos else 0 := by
        rw [signFrom_len ht0, tail_size]
        by_cases hc : pos + 1 < s.size ∧ signB (s.extract pos (pos + 2)).toList = true
        · rw [if_pos hc] at e1
          have e2 : (s.extract pos s.size).extract 0 2 = s.extract pos (pos + 2) := ext_ext s pos 2 (by omega)
          rw [e2, if_pos ⟨by omega, hc.2⟩, e1, if_pos hc.2]
          omega
        · rw [if_neg hc] at e1
          have e3 : (s.extract pos s.size).extract 0 1 = s.extract pos (pos + 1) := ext_ext s pos 1 (by omega)
          have hn2 : ¬ (2 ≤ s.size - pos ∧ signB ((s.extract pos s.size).extract 0 2).toList = true) := by
            rintro ⟨h3, h4⟩
            rw [ext_ext s pos 2 (by omega)] at h4
            exact hc ⟨by omega, h4⟩
          rw [if_neg hn2, e3, e1]
          split <;> omega
      rw [key] at hW
      refine ⟨⟨_, _, rfl, ?_, ?_⟩, hb⟩
      · intro k' n v' hk
        rw [hW] at hk
        by_cases hc : signB (s.extract pos (endB s pos)).toList = true
        · rw [if_pos hc, if_pos (by omega)] at hk
          simp only [Option.some.injEq, Prod.mk.injEq] at hk
          obtain ⟨rfl, rfl, rfl⟩ := hk
          rw [if_pos hc]
          exact ⟨rfl, by omega, rfl, by simp, by simp⟩
        · rw [if_neg hc, if_neg (by omega)] at hk
          cases hk
      · intro hk
        rw [hW] at hk
        by_cases hc : signB (s.extract pos (endB s pos)).toList = true
        · rw [if_pos hc, if_pos (by omega)] at hk
          cases hk
        · rw [if_neg hc]
          rfl
    · have e1 := endB_dig hp h1 h2
      have e2 := run_tail isDig s pos _ 0 rfl (by omega)
      rw [Nat.add_zero] at e2
      have e3 : runFrom isDig (s.extract pos s.size) 0 = endB s pos - pos := by omega
      have hw : wordB (s.extract pos (endB s pos)).toList = false := wordB_false (by rintro ⟨_, h3⟩; rw [hx1, h1] at h3; cases h3)
      have hn : nameB (s.extract pos (endB s pos)) = false := nameB_false (by rintro ⟨_, h3⟩; rw [hx1, h1] at h3; cases h3)
      have hsg : signB (s.extract pos (endB s pos)).toList = false := by
        rw [← Bool.not_eq_true]
        intro h3
        obtain ⟨_, _, h4, _⟩ := sign_hd h3
        rw [hx1, h2] at h4
        cases h4
      have hW : wordOf (s.extract pos s.size) = if 18 < endB s pos - pos ∨ ((s[pos]).toNat = 48 ∧ 1 < endB s pos - pos) then none else some (2, endB s pos - pos, numOf (s.extract pos (endB s pos)).data.toList) := by
        unfold wordOf
        rw [dif_pos ht0, if_neg (by rw [ht1, h1]; simp), if_pos (by rw [ht1, h2]), e3, hxt, ht1]
      refine (of_yes _ w (by omega) hx0 (fun j hj => ?_) hw hn hsg).mono ?_
      · rw [ByteArray.getElem_extract]
        obtain ⟨_, _, h3⟩ := runFrom_all isDig s _ pos rfl (pos + j) (by omega) (by omega)
        exact h3
      · rintro e w' ⟨hr, hb⟩
        rw [hx1, hxs] at hr
        refine ⟨?_, hb⟩
        split at hr
        · rename_i hc
          rw [if_pos hc] at hW
          exact ⟨0, 0, hr, fun k' n v' hk => by rw [hW] at hk; (cases hk), fun _ => rfl⟩
        · rename_i hc
          rw [if_neg hc] at hW
          refine ⟨2, _, hr, fun k' n v' hk => ?_, fun hk => by rw [hW] at hk; cases hk⟩
          rw [hW] at hk
          simp only [Option.some.injEq, Prod.mk.injEq] at hk
          obtain ⟨rfl, rfl, rfl⟩ := hk
          exact ⟨rfl, by omega, rfl, by omega, by omega⟩
  · have hd0 : isDig (s[pos]).toNat = false := by
      simp [isLet] at h1
      simp [isDig]
      omega
    have e1 := endB_let hp h1
    have e2 := run_tail isLod s pos _ 0 rfl (by omega)
    rw [Nat.add_zero] at e2
    have e3 : runFrom isLod (s.extract pos s.size) 0 = endB s pos - pos := by omega
    have hsg : signB (s.extract pos (endB s pos)).toList = false := by
      rw [← Bool.not_eq_true]
      intro h3
      obtain ⟨_, h4, _⟩ := sign_hd h3
      rw [hx1, h1] at h4
      cases h4
    have hW : wordOf (s.extract pos s.size) = if wordB (s.extract pos (endB s pos)).toList then some (3, endB s pos - pos, 0) else if endB s pos - pos ≤ 12 then some (1, endB s pos - pos, 0) else none := by
      unfold wordOf
      rw [dif_pos ht0, if_pos (by rw [ht1, h1]), e3, hxt]
    refine (of_no _ w (by omega) hx0 (by rw [hx1]; exact hd0)).mono ?_
    rintro e w' ⟨rfl, hb⟩
    refine ⟨⟨_, _, rfl, ?_, ?_⟩, hb⟩
    · intro k' n v' hk
      have ok := wordOf_ok hk
      rw [hW] at hk
      rcases hw : wordB (s.extract pos (endB s pos)).toList with _ | _
      · rw [hw, if_neg (by simp)] at hk
        split at hk
        · simp only [Option.some.injEq, Prod.mk.injEq] at hk
          obtain ⟨rfl, rfl, rfl⟩ := hk
          rw [hxt] at ok
          have hn : nameB (s.extract pos (endB s pos)) = true := ok.1
          rw [hn]
          exact ⟨by simp, by omega, rfl, by simp, by simp⟩
        · cases hk
      · rw [hw, if_pos rfl] at hk
        simp only [Option.some.injEq, Prod.mk.injEq] at hk
        obtain ⟨rfl, rfl, rfl⟩ := hk
        exact ⟨by simp, by omega, rfl, by simp, by simp⟩
    · intro hk
      rw [hW] at hk
      rcases hw : wordB (s.extract pos (endB s pos)).toList with _ | _
      · rw [hw, if_neg (by simp)] at hk
        split at hk
        · cases hk
        · rename_i hl
          have hn : nameB (s.extract pos (endB s pos)) = false := by
            rw [← Bool.not_eq_true]
            intro h3
            obtain ⟨_, h4, _⟩ := name_hd h3
            omega
          rw [hn, hsg]
          simp
      · rw [hw, if_pos rfl] at hk
        cases hk
end Go.Proofs.YtekdchhengcfoaaDoor
