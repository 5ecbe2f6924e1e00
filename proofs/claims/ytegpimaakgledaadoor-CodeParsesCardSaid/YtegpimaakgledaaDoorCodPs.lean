/- The lines of a program's text, and their parts: what the document's parsing finds. No program's text. -/
import Derived.Test.YtegpimaakgledaaDoorRows
import Derived.Test.YtegpimaakgledaaDoorCodPc
import Derived.Test.YtegpimaakgledaaDoorCodZ
namespace Go.Proofs.YtegpimaakgledaaDoor
open Go Go.RowKit
open Go.Lib (itoa atoiAll parseIntB trimPrefix hasPrefix)
open Wit (spl jnB jn_cons jn_spl spl_jn rdB rdB_itoa rdB_sound Fit)
set_option linter.unusedVariables false
set_option linter.unusedSimpArgs false
namespace Cod
def wV : List UInt8 := [118, 97, 114, 115]
def wA : List UInt8 := [97, 114, 114, 97, 121, 115]
def lnV (v : Int) : List UInt8 := jnB 32 [wV, itoa v]
def lnA (arrs : List Int) : List UInt8 := jnB 32 (wA :: arrs.map itoa)
def ptI (x : In) : List (List UInt8) := (opO x.op).nm.data.toList :: (if x.n = 0 then [] else [itoa x.n])
def lnI (x : In) : List UInt8 := jnB 32 (ptI x)
theorem jn_map : ∀ (p : List UInt8) (l : List Int), jnB 32 (p :: l.map itoa) = p ++ l.flatMap fun n => 32 :: itoa n
  | p, [] => by simp [jnB]
  | p, n :: l => by
    rw [List.map_cons, jn_cons _ _ _ (by simp), jn_map (itoa n) l, List.flatMap_cons]
    simp
theorem jn_lines : ∀ (p : List UInt8) (l : List In), jnB 10 (p :: (l.map lnI ++ [[]])) = p ++ 10 :: l.flatMap fun x => lnI x ++ [10]
  | p, [] => by simp [jnB]
  | p, x :: l => by
    rw [List.map_cons, List.cons_append, jn_cons _ _ _ (by simp), jn_lines (lnI x) l, List.flatMap_cons]
    simp
theorem lnI_tx (x : In) : lnI x ++ [10] = txI x := by
  unfold lnI ptI txI
  by_cases h : x.n = 0
  · simp [h, jnB]
  · simp [h, jnB]
/-- The text's lines. -/
def lines (v : Int) (arrs : List Int) (cs : List In) : List (List UInt8) := lnV v :: lnA arrs :: (cs.map lnI ++ [[]])
theorem tx_lines (v : Int) (arrs : List Int) (cs : List In) : jnB 10 (lines v arrs cs) = txP v arrs cs := by
  unfold lines
  rw [jn_cons _ _ _ (by simp), jn_lines]
  have e : (fun x => lnI x ++ [10]) = txI := funext lnI_tx
  rw [e]
  unfold txP txC txA lnA lnV
  rw [jn_map]
  simp [jnB, wV, wA]
theorem spl_lines {v : Int} {arrs : List Int} {cs : List In} (hc : ∀ x ∈ cs, 1 ≤ x.op ∧ x.op ≤ 29) : spl 10 [] (txP v arrs cs) = lines v arrs cs := by
  rw [← tx_lines]
  unfold lines
  refine spl_jn 10 _ _ fun w hw x hx => ?_
  rcases List.mem_cons.1 hw with rfl | hw
  · unfold lnV at hx
    simp only [jnB, List.mem_append, List.mem_cons] at hx
    rcases hx with hx | rfl | hx
    · simp only [wV, List.mem_cons, List.not_mem_nil, or_false] at hx
      rcases hx with rfl | rfl | rfl | rfl <;> decide
    · decide
    · exact itoa_ne v 10 (.inl rfl) x hx
  rcases List.mem_cons.1 hw with rfl | hw
  · unfold lnA at hx
    rw [jn_map] at hx
    rcases List.mem_append.1 hx with hx | hx
    · simp only [wA, List.mem_cons, List.not_mem_nil, or_false] at hx
      rcases hx with rfl | rfl | rfl | rfl | rfl | rfl <;> decide
    · obtain ⟨n, _, hx⟩ := List.mem_flatMap.1 hx
      rcases List.mem_cons.1 hx with rfl | hx
      · decide
      · exact itoa_ne n 10 (.inl rfl) x hx
  rcases List.mem_append.1 hw with hw | hw
  · obtain ⟨y, hy, rfl⟩ := List.mem_map.1 hw
    obtain ⟨h1, h2⟩ := hc y hy
    obtain ⟨o, ho⟩ : ∃ o : Nat, y.op = o := ⟨y.op.toNat, by omega⟩
    have hb := nm_bytes o (by omega) (by omega)
    rw [← ho] at hb
    unfold lnI ptI at hx
    by_cases hn : y.n = 0
    · simp only [hn, if_true, jnB] at hx
      exact (hb x hx).1
    · simp only [hn, if_false, jnB, List.mem_append, List.mem_cons] at hx
      rcases hx with hx | rfl | hx
      · exact (hb x hx).1
      · decide
      · exact itoa_ne y.n 10 (.inl rfl) x hx
  · rw [List.mem_singleton.1 hw] at hx
    cases hx
theorem spl_V (v : Int) : spl 32 [] (lnV v) = [wV, itoa v] := by
  unfold lnV
  refine spl_jn 32 _ _ fun w hw x hx => ?_
  simp only [List.mem_cons, List.not_mem_nil, or_false] at hw
  rcases hw with rfl | rfl
  · simp only [wV, List.mem_cons, List.not_mem_nil, or_false] at hx
    rcases hx with rfl | rfl | rfl | rfl <;> decide
  · exact itoa_ne v 32 (.inr rfl) x hx
theorem spl_A (arrs : List Int) : spl 32 [] (lnA arrs) = wA :: arrs.map itoa := by
  unfold lnA
  refine spl_jn 32 _ _ fun w hw x hx => ?_
  rcases List.mem_cons.1 hw with rfl | hw
  · simp only [wA, List.mem_cons, List.not_mem_nil, or_false] at hx
    rcases hx with rfl | rfl | rfl | rfl | rfl | rfl <;> decide
  · obtain ⟨n, _, rfl⟩ := List.mem_map.1 hw
    exact itoa_ne n 32 (.inr rfl) x hx
theorem spl_I {x : In} (h1 : 1 ≤ x.op) (h2 : x.op ≤ 29) : spl 32 [] (lnI x) = ptI x := by
  obtain ⟨o, ho⟩ : ∃ o : Nat, x.op = o := ⟨x.op.toNat, by omega⟩
  have hb := nm_bytes o (by omega) (by omega)
  rw [← ho] at hb
  unfold lnI ptI
  refine spl_jn 32 _ _ fun w hw y hy => ?_
  rcases List.mem_cons.1 hw with rfl | hw
  · exact (hb y hy).2
  · by_cases hn : x.n = 0
    · simp [hn] at hw
    · simp [hn] at hw
      subst hw
      exact itoa_ne x.n 32 (.inr rfl) y hy
/-- No program that may be has this text. -/
def NP (s : List UInt8) : Prop := ∀ v arrs cs hs, HtR cs v arrs (some hs) → Well cs v arrs → txP v arrs cs ≠ s
theorem HtR.ops {cs : List In} {vars : Int} {arrs hs : List Int} (h : HtR cs vars arrs (some hs)) : (∀ x ∈ cs, 1 ≤ x.op ∧ x.op ≤ 29) ∧ 0 < cs.length ∧ cs.length ≤ 4000 := by
  obtain ⟨h1, h2, _, _, _, _, h7⟩ := mayNs_parts h.mays
  refine ⟨fun x hx => ?_, h1, h2⟩
  have h := h7 x hx
  unfold mayN at h
  simp only [Bool.and_eq_true, decide_eq_true_eq] at h
  exact h.1
/-- What a text that is a program's looks like. -/
theorem NP.of {s : List UInt8} (h : ∀ v arrs cs, 0 < cs.length → cs.length ≤ 4000 → (∀ x ∈ cs, 1 ≤ x.op ∧ x.op ≤ 29) → Well cs v arrs → spl 10 [] s = lines v arrs cs → False) : NP s := by
  intro v arrs cs hs hh hw e
  obtain ⟨o1, o2, o3⟩ := hh.ops
  exact h v arrs cs o2 o3 o1 hw (by rw [← e]; exact spl_lines o1)
theorem lines_len (v : Int) (arrs : List Int) (cs : List In) : (lines v arrs cs).length = cs.length + 3 := by
  unfold lines
  simp
theorem lines_at {v : Int} {arrs : List Int} {cs : List In} {k : Nat} (h2 : 2 ≤ k) (hk : k < cs.length + 2) : (lines v arrs cs)[k]? = some (lnI (cs[k - 2]'(by omega))) := by
  obtain ⟨m, rfl⟩ : ∃ m, k = m + 2 := ⟨k - 2, by omega⟩
  unfold lines
  simp only [List.getElem?_cons_succ]
  rw [List.getElem?_append_left (by rw [List.length_map]; omega), List.getElem?_map, List.getElem?_eq_getElem (by omega)]
  rfl
theorem lines_last (v : Int) (arrs : List Int) (cs : List In) : (lines v arrs cs)[cs.length + 2]? = some [] := by
  unfold lines
  simp only [List.getElem?_cons_succ]
  rw [List.getElem?_append_right (by simp)]
  simp
theorem np_len {s : List UInt8} {L : List (List UInt8)} (hL : spl 10 [] s = L) (h : L.length < 4 ∨ L[L.length - 1]? ≠ some []) : NP s := NP.of fun v arrs cs h0 _ _ _ e => by
  rw [hL] at e
  subst e
  rw [lines_len] at h
  rcases h with h | h
  · omega
  · exact h (lines_last v arrs cs)
theorem np_V {s : List UInt8} {L : List (List UInt8)} {l0 : List UInt8} (hL : spl 10 [] s = L) (h0 : L[0]? = some l0) (h : (spl 32 [] l0).length ≠ 2 ∨ (spl 32 [] l0)[0]? ≠ some wV ∨ ∃ p, (spl 32 [] l0)[1]? = some p ∧ (rdB p).2 = false) : NP s := NP.of fun v arrs cs _ _ _ hw e => by
  rw [hL] at e
  subst e
  have e0 : l0 = lnV v := by
    have : (lines v arrs cs)[0]? = some (lnV v) := rfl
    rw [this] at h0
    injection h0 with h0
    exact h0.symm
  rw [e0, spl_V] at h
  rcases h with h | h | ⟨p, h1, h2⟩
  · exact h rfl
  · exact h rfl
  · have : p = itoa v := by
      have e1 : [wV, itoa v][1]? = some (itoa v) := rfl
      rw [e1] at h1
      injection h1 with h1
      exact h1.symm
    rw [this, rdB_itoa v hw.vr] at h2
    cases h2
theorem np_A {s : List UInt8} {L : List (List UInt8)} {l1 : List UInt8} (hL : spl 10 [] s = L) (h0 : L[1]? = some l1) (h : (spl 32 [] l1)[0]? ≠ some wA ∨ ∃ i p, 1 ≤ i ∧ (spl 32 [] l1)[i]? = some p ∧ (rdB p).2 = false) : NP s := NP.of fun v arrs cs _ _ _ hw e => by
  rw [hL] at e
  subst e
  have e0 : l1 = lnA arrs := by
    have : (lines v arrs cs)[1]? = some (lnA arrs) := rfl
    rw [this] at h0
    injection h0 with h0
    exact h0.symm
  rw [e0, spl_A] at h
  rcases h with h | ⟨i, p, hi, h1, h2⟩
  · exact h rfl
  · obtain ⟨j, rfl⟩ : ∃ j, i = j + 1 := ⟨i - 1, by omega⟩
    rw [List.getElem?_cons_succ, List.getElem?_map] at h1
    cases ha : arrs[j]? with
    | none => rw [ha] at h1; cases h1
    | some n =>
      rw [ha] at h1
      injection h1 with h1
      have hn := hw.ar n (List.mem_of_getElem? ha)
      rw [← h1, rdB_itoa n hn] at h2
      cases h2
theorem np_I {s : List UInt8} {L : List (List UInt8)} {l : List UInt8} {k : Nat} (hL : spl 10 [] s = L) (h2 : 2 ≤ k) (hk : k + 1 < L.length) (h0 : L[k]? = some l) (h : 2 < (spl 32 [] l).length ∨ (∃ p, (spl 32 [] l)[0]? = some p ∧ opOf p = none) ∨ (∃ p, (spl 32 [] l)[1]? = some p ∧ ((rdB p).2 = false ∨ (rdB p).1 = 0))) : NP s := NP.of fun v arrs cs _ _ ho hw e => by
  rw [hL] at e
  subst e
  rw [lines_len] at hk
  have hkc : k - 2 < cs.length := by omega
  rw [lines_at h2 (by omega)] at h0
  injection h0 with h0
  have hx := List.getElem_mem hkc
  generalize cs[k - 2] = x at *
  obtain ⟨o1, o2⟩ := ho x hx
  rw [← h0, spl_I o1 o2] at h
  unfold ptI at h
  by_cases hn : x.n = 0
  · simp only [hn, if_true] at h
    rcases h with h | ⟨p, h1, h3⟩ | ⟨p, h1, h3⟩
    · simp at h
    · simp only [List.getElem?_cons_zero] at h1
      injection h1 with h1
      obtain ⟨o, hoo⟩ : ∃ o : Nat, x.op = o := ⟨x.op.toNat, by omega⟩
      rw [← h1, hoo, opOf_nm o (by omega) (by omega)] at h3
      cases h3
    · cases h1
  · simp only [hn, if_false] at h
    rcases h with h | ⟨p, h1, h3⟩ | ⟨p, h1, h3⟩
    · simp at h
    · simp only [List.getElem?_cons_zero] at h1
      injection h1 with h1
      obtain ⟨o, hoo⟩ : ∃ o : Nat, x.op = o := ⟨x.op.toNat, by omega⟩
      rw [← h1, hoo, opOf_nm o (by omega) (by omega)] at h3
      cases h3
    · simp only [List.getElem?_cons_succ, List.getElem?_cons_zero] at h1
      injection h1 with h1
      have hf : Fit x.n := ⟨(hw.cd x hx).2.2.1, (hw.cd x hx).2.2.2⟩
      rw [← h1, rdB_itoa x.n hf] at h3
      rcases h3 with h3 | h3
      · cases h3
      · exact hn h3
/-- What was parsed has just that text. -/
theorem parsed_text {s : List UInt8} {L : List (List UInt8)} {l0 l1 : List UInt8} {v : Int} {arrs : List Int} {cs : List In} (hL : spl 10 [] s = L) (h0 : L[0]? = some l0) (h1 : L[1]? = some l1) (hv : spl 32 [] l0 = [wV, itoa v]) (ha : spl 32 [] l1 = wA :: arrs.map itoa)
    (hn : L.length = cs.length + 3) (hc : ∀ k (hk : k < cs.length), L[k + 2]? = some (lnI cs[k])) (hl : L[L.length - 1]? = some []) : txP v arrs cs = s := by
  have e : L = lines v arrs cs := by
    apply List.ext_getElem?
    intro i
    have hl' := lines_len v arrs cs
    rcases Nat.lt_or_ge i L.length with h | h
    rotate_left
    · rw [List.getElem?_eq_none h, List.getElem?_eq_none (by omega)]
    match i, h with
    | 0, _ =>
      rw [h0]
      have := jn_spl 32 l0 []
      rw [hv] at this
      show some l0 = some (lnV v)
      unfold lnV
      rw [this]
      rfl
    | 1, _ =>
      rw [h1]
      have := jn_spl 32 l1 []
      rw [ha] at this
      show some l1 = some (lnA arrs)
      unfold lnA
      rw [this]
      rfl
    | i + 2, h =>
      rcases Nat.lt_or_ge i cs.length with hi | hi
      · rw [hc i hi, lines_at (by omega) (by omega)]
        simp only [Nat.add_sub_cancel]
      · have : i + 2 = cs.length + 2 := by omega
        rw [this, lines_last]
        rw [show L.length - 1 = cs.length + 2 by omega] at hl
        exact hl
  rw [← tx_lines, ← e, ← hL, jn_spl]
  rfl
/-- The text of what has operations is read as that. -/
theorem RdR.text0 {cs : List In} {vars : Int} {arrs : List Int} (hv : Wit.Fit vars) (h2 : cs.length ≤ 4000) (ho : ∀ x ∈ cs, 1 ≤ x.op ∧ x.op ≤ 29) (hk : ∀ x ∈ cs, x.ok) (ha : ∀ x ∈ arrs, -9223372036854775808 ≤ x ∧ x ≤ 9223372036854775807) : RdR (txP vars arrs cs) (some (vars, arrs, cs)) := by
  have e : txP vars arrs cs = ([118, 97, 114, 115, 32] ++ itoa vars) ++ 10 :: (([97, 114, 114, 97, 121, 115] ++ arrs.flatMap fun n => 32 :: itoa n) ++ 10 :: cs.flatMap txI) := by
    unfold txP txC txA
    simp
  have c1 := cut1_app (c := 10) ([118, 97, 114, 115, 32] ++ itoa vars) (([97, 114, 114, 97, 121, 115] ++ arrs.flatMap fun n => 32 :: itoa n) ++ 10 :: cs.flatMap txI) (fun y hy => by
    rcases List.mem_append.1 hy with hy | hy
    · simp only [List.mem_cons, List.not_mem_nil, or_false] at hy
      rcases hy with rfl | rfl | rfl | rfl | rfl <;> decide
    · exact itoa_ne vars 10 (.inl rfl) y hy)
  have c2 := cut1_app (c := 10) ([97, 114, 114, 97, 121, 115] ++ arrs.flatMap fun n => 32 :: itoa n) (cs.flatMap txI) (fun y hy => by
    rcases List.mem_append.1 hy with hy | hy
    · simp only [List.mem_cons, List.not_mem_nil, or_false] at hy
      rcases hy with rfl | rfl | rfl | rfl | rfl | rfl <;> decide
    · obtain ⟨n, _, hy⟩ := List.mem_flatMap.1 hy
      rcases List.mem_cons.1 hy with rfl | hy
      · decide
      · exact itoa_ne n 10 (.inl rfl) y hy)
  rw [e]
  refine .yes vars arrs cs ?_ ?_ ?_
  · unfold hdV
    rw [c1, trim_yes]
    exact Wit.atoi_itoa vars hv
  · unfold plA
    rw [c1]
    dsimp only
    rw [c2, trim_yes]
    exact ArR.flat arrs ha
  · unfold rsC
    rw [c1]
    dsimp only
    rw [c2]
    have := CoR.flat cs [] (fun x hx => ?_) (by simpa using h2)
    · exact this
    · exact ⟨(ho x hx).1, (ho x hx).2, ⟨(hk x hx).2.2.1, (hk x hx).2.2.2⟩⟩
/-- If what was parsed may not be, no program that may be has this text. -/
theorem np_may {s : List UInt8} {v : Int} {arrs : List Int} {cs : List In} (ht : txP v arrs cs = s) (hw : Well cs v arrs) (ho : ∀ x ∈ cs, 1 ≤ x.op ∧ x.op ≤ 29) (hn : HrR cs v arrs none) : NP s := fun v' arrs' cs' hs' hh hw' e => by
  obtain ⟨o1, o2, o3⟩ := hh.ops
  have l1 := spl_lines (v := v) (arrs := arrs) ho
  have l2 := spl_lines (v := v') (arrs := arrs') o1
  rw [ht, ← e, l2] at l1
  have hl := congrArg List.length l1
  rw [lines_len, lines_len] at hl
  have a := RdR.text0 (vars := v) (arrs := arrs) (cs := cs) hw.vr (by omega) ho hw.cd hw.ar
  have b := RdR.text0 (vars := v') (arrs := arrs') (cs := cs') hw'.vr o3 o1 hw'.cd hw'.ar
  rw [ht] at a
  rw [e] at b
  have c := b.det a
  injection c with c
  injection c with c1 c2
  injection c2 with c3 c4
  subst c1 c3 c4
  cases hh.same hn
end Cod
end Go.Proofs.YtegpimaakgledaaDoor
