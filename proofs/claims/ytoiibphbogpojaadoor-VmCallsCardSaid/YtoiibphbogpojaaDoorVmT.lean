/- The code of one call may be. No program's text. -/
import Derived.Test.YtoiibphbogpojaaDoorCodP
namespace Go.Proofs.YtoiibphbogpojaaDoor
open Go Go.RowKit Go.Proofs.YtoiibphbogpojaaDoor.Cod
set_option linter.unusedVariables false
set_option linter.unusedSimpArgs false
namespace Vm
def callCs (l : List Int) (n : Int) : List In := l.map (fun z => ⟨1, z⟩) ++ [⟨28, n⟩, ⟨29, 0⟩]
theorem mayN_num (len vars arrs z : Int) : mayN len vars arrs ⟨1, z⟩ = true := by rfl
theorem mayN_call {len vars arrs n : Int} (h : mayCl n = true) : mayN len vars arrs ⟨28, n⟩ = true := by
  have e : mayN len vars arrs ⟨28, n⟩ = mayCl n := by rfl
  rw [e, h]
theorem mayN_stop (len vars arrs : Int) : mayN len vars arrs ⟨29, 0⟩ = true := by rfl
theorem step_callT {n : Int} {m : Nat} (h : n % 1024 / 32 = (m : Int)) (hm : m ≤ 8) : stepI ⟨28, n⟩ (m : Int) = some 0 := by
  have e1 : tkI ⟨28, n⟩ = (m : Int) := h
  have e2 : adO 28 = 0 := rfl
  unfold stepI
  rw [e1]
  show (if (m : Int) ≤ m ∧ (m : Int) - m + adO 28 ≤ 200 then some ((m : Int) - m + adO 28) else none) = some 0
  rw [e2, if_pos (by omega)]
  congr 1
  omega
theorem call0 (n : Int) (hM : mayCl n = true) (h : n % 1024 / 32 = ((0 : Nat) : Int)) : HtR (callCs [] n) 0 [] (some [0, 0]) :=
  .inr ⟨by
    have e : (callCs [] n).all (mayN (callCs [] n).length 0 ([] : List Int).length) = true := by
      simp only [callCs, List.map_cons, List.map_nil, List.cons_append, List.nil_append, List.all_cons, List.all_nil, mayN_num, mayN_call hM, mayN_stop, Bool.and_true]
    unfold mayNs
    rw [e]
    rfl, (.go [0, -1] [] 0 [0, 0] [1] _ (by show (stepI ⟨28, n⟩ 0).bind _ = _; rw [show stepI ⟨28, n⟩ 0 = some 0 from step_callT (m := 0) h (by omega)]; rfl) (.go [0, 0] [] 1 [0, 0] [] _ (by rfl) (.stop _)))⟩
theorem call1 (z0 : Int) (n : Int) (hM : mayCl n = true) (h : n % 1024 / 32 = ((1 : Nat) : Int)) : HtR (callCs [z0] n) 0 [] (some [0, 1, 0]) :=
  .inr ⟨by
    have e : (callCs [z0] n).all (mayN (callCs [z0] n).length 0 ([] : List Int).length) = true := by
      simp only [callCs, List.map_cons, List.map_nil, List.cons_append, List.nil_append, List.all_cons, List.all_nil, mayN_num, mayN_call hM, mayN_stop, Bool.and_true]
    unfold mayNs
    rw [e]
    rfl, (.go [0, -1, -1] [] 0 [0, 1, -1] [1] _ (by rfl) (.go [0, 1, -1] [] 1 [0, 1, 0] [2] _ (by show (stepI ⟨28, n⟩ 1).bind _ = _; rw [show stepI ⟨28, n⟩ 1 = some 0 from step_callT (m := 1) h (by omega)]; rfl) (.go [0, 1, 0] [] 2 [0, 1, 0] [] _ (by rfl) (.stop _))))⟩
theorem call2 (z0 z1 : Int) (n : Int) (hM : mayCl n = true) (h : n % 1024 / 32 = ((2 : Nat) : Int)) : HtR (callCs [z0, z1] n) 0 [] (some [0, 1, 2, 0]) :=
  .inr ⟨by
    have e : (callCs [z0, z1] n).all (mayN (callCs [z0, z1] n).length 0 ([] : List Int).length) = true := by
      simp only [callCs, List.map_cons, List.map_nil, List.cons_append, List.nil_append, List.all_cons, List.all_nil, mayN_num, mayN_call hM, mayN_stop, Bool.and_true]
    unfold mayNs
    rw [e]
    rfl, (.go [0, -1, -1, -1] [] 0 [0, 1, -1, -1] [1] _ (by rfl) (.go [0, 1, -1, -1] [] 1 [0, 1, 2, -1] [2] _ (by rfl) (.go [0, 1, 2, -1] [] 2 [0, 1, 2, 0] [3] _ (by show (stepI ⟨28, n⟩ 2).bind _ = _; rw [show stepI ⟨28, n⟩ 2 = some 0 from step_callT (m := 2) h (by omega)]; rfl) (.go [0, 1, 2, 0] [] 3 [0, 1, 2, 0] [] _ (by rfl) (.stop _)))))⟩
theorem call3 (z0 z1 z2 : Int) (n : Int) (hM : mayCl n = true) (h : n % 1024 / 32 = ((3 : Nat) : Int)) : HtR (callCs [z0, z1, z2] n) 0 [] (some [0, 1, 2, 3, 0]) :=
  .inr ⟨by
    have e : (callCs [z0, z1, z2] n).all (mayN (callCs [z0, z1, z2] n).length 0 ([] : List Int).length) = true := by
      simp only [callCs, List.map_cons, List.map_nil, List.cons_append, List.nil_append, List.all_cons, List.all_nil, mayN_num, mayN_call hM, mayN_stop, Bool.and_true]
    unfold mayNs
    rw [e]
    rfl, (.go [0, -1, -1, -1, -1] [] 0 [0, 1, -1, -1, -1] [1] _ (by rfl) (.go [0, 1, -1, -1, -1] [] 1 [0, 1, 2, -1, -1] [2] _ (by rfl) (.go [0, 1, 2, -1, -1] [] 2 [0, 1, 2, 3, -1] [3] _ (by rfl) (.go [0, 1, 2, 3, -1] [] 3 [0, 1, 2, 3, 0] [4] _ (by show (stepI ⟨28, n⟩ 3).bind _ = _; rw [show stepI ⟨28, n⟩ 3 = some 0 from step_callT (m := 3) h (by omega)]; rfl) (.go [0, 1, 2, 3, 0] [] 4 [0, 1, 2, 3, 0] [] _ (by rfl) (.stop _))))))⟩
theorem call4 (z0 z1 z2 z3 : Int) (n : Int) (hM : mayCl n = true) (h : n % 1024 / 32 = ((4 : Nat) : Int)) : HtR (callCs [z0, z1, z2, z3] n) 0 [] (some [0, 1, 2, 3, 4, 0]) :=
  .inr ⟨by
    have e : (callCs [z0, z1, z2, z3] n).all (mayN (callCs [z0, z1, z2, z3] n).length 0 ([] : List Int).length) = true := by
      simp only [callCs, List.map_cons, List.map_nil, List.cons_append, List.nil_append, List.all_cons, List.all_nil, mayN_num, mayN_call hM, mayN_stop, Bool.and_true]
    unfold mayNs
    rw [e]
    rfl, (.go [0, -1, -1, -1, -1, -1] [] 0 [0, 1, -1, -1, -1, -1] [1] _ (by rfl) (.go [0, 1, -1, -1, -1, -1] [] 1 [0, 1, 2, -1, -1, -1] [2] _ (by rfl) (.go [0, 1, 2, -1, -1, -1] [] 2 [0, 1, 2, 3, -1, -1] [3] _ (by rfl) (.go [0, 1, 2, 3, -1, -1] [] 3 [0, 1, 2, 3, 4, -1] [4] _ (by rfl) (.go [0, 1, 2, 3, 4, -1] [] 4 [0, 1, 2, 3, 4, 0] [5] _ (by show (stepI ⟨28, n⟩ 4).bind _ = _; rw [show stepI ⟨28, n⟩ 4 = some 0 from step_callT (m := 4) h (by omega)]; rfl) (.go [0, 1, 2, 3, 4, 0] [] 5 [0, 1, 2, 3, 4, 0] [] _ (by rfl) (.stop _)))))))⟩
theorem call5 (z0 z1 z2 z3 z4 : Int) (n : Int) (hM : mayCl n = true) (h : n % 1024 / 32 = ((5 : Nat) : Int)) : HtR (callCs [z0, z1, z2, z3, z4] n) 0 [] (some [0, 1, 2, 3, 4, 5, 0]) :=
  .inr ⟨by
    have e : (callCs [z0, z1, z2, z3, z4] n).all (mayN (callCs [z0, z1, z2, z3, z4] n).length 0 ([] : List Int).length) = true := by
      simp only [callCs, List.map_cons, List.map_nil, List.cons_append, List.nil_append, List.all_cons, List.all_nil, mayN_num, mayN_call hM, mayN_stop, Bool.and_true]
    unfold mayNs
    rw [e]
    rfl, (.go [0, -1, -1, -1, -1, -1, -1] [] 0 [0, 1, -1, -1, -1, -1, -1] [1] _ (by rfl) (.go [0, 1, -1, -1, -1, -1, -1] [] 1 [0, 1, 2, -1, -1, -1, -1] [2] _ (by rfl) (.go [0, 1, 2, -1, -1, -1, -1] [] 2 [0, 1, 2, 3, -1, -1, -1] [3] _ (by rfl) (.go [0, 1, 2, 3, -1, -1, -1] [] 3 [0, 1, 2, 3, 4, -1, -1] [4] _ (by rfl) (.go [0, 1, 2, 3, 4, -1, -1] [] 4 [0, 1, 2, 3, 4, 5, -1] [5] _ (by rfl) (.go [0, 1, 2, 3, 4, 5, -1] [] 5 [0, 1, 2, 3, 4, 5, 0] [6] _ (by show (stepI ⟨28, n⟩ 5).bind _ = _; rw [show stepI ⟨28, n⟩ 5 = some 0 from step_callT (m := 5) h (by omega)]; rfl) (.go [0, 1, 2, 3, 4, 5, 0] [] 6 [0, 1, 2, 3, 4, 5, 0] [] _ (by rfl) (.stop _))))))))⟩
theorem call6 (z0 z1 z2 z3 z4 z5 : Int) (n : Int) (hM : mayCl n = true) (h : n % 1024 / 32 = ((6 : Nat) : Int)) : HtR (callCs [z0, z1, z2, z3, z4, z5] n) 0 [] (some [0, 1, 2, 3, 4, 5, 6, 0]) :=
  .inr ⟨by
    have e : (callCs [z0, z1, z2, z3, z4, z5] n).all (mayN (callCs [z0, z1, z2, z3, z4, z5] n).length 0 ([] : List Int).length) = true := by
      simp only [callCs, List.map_cons, List.map_nil, List.cons_append, List.nil_append, List.all_cons, List.all_nil, mayN_num, mayN_call hM, mayN_stop, Bool.and_true]
    unfold mayNs
    rw [e]
    rfl, (.go [0, -1, -1, -1, -1, -1, -1, -1] [] 0 [0, 1, -1, -1, -1, -1, -1, -1] [1] _ (by rfl) (.go [0, 1, -1, -1, -1, -1, -1, -1] [] 1 [0, 1, 2, -1, -1, -1, -1, -1] [2] _ (by rfl) (.go [0, 1, 2, -1, -1, -1, -1, -1] [] 2 [0, 1, 2, 3, -1, -1, -1, -1] [3] _ (by rfl) (.go [0, 1, 2, 3, -1, -1, -1, -1] [] 3 [0, 1, 2, 3, 4, -1, -1, -1] [4] _ (by rfl) (.go [0, 1, 2, 3, 4, -1, -1, -1] [] 4 [0, 1, 2, 3, 4, 5, -1, -1] [5] _ (by rfl) (.go [0, 1, 2, 3, 4, 5, -1, -1] [] 5 [0, 1, 2, 3, 4, 5, 6, -1] [6] _ (by rfl) (.go [0, 1, 2, 3, 4, 5, 6, -1] [] 6 [0, 1, 2, 3, 4, 5, 6, 0] [7] _ (by show (stepI ⟨28, n⟩ 6).bind _ = _; rw [show stepI ⟨28, n⟩ 6 = some 0 from step_callT (m := 6) h (by omega)]; rfl) (.go [0, 1, 2, 3, 4, 5, 6, 0] [] 7 [0, 1, 2, 3, 4, 5, 6, 0] [] _ (by rfl) (.stop _)))))))))⟩
theorem call7 (z0 z1 z2 z3 z4 z5 z6 : Int) (n : Int) (hM : mayCl n = true) (h : n % 1024 / 32 = ((7 : Nat) : Int)) : HtR (callCs [z0, z1, z2, z3, z4, z5, z6] n) 0 [] (some [0, 1, 2, 3, 4, 5, 6, 7, 0]) :=
  .inr ⟨by
    have e : (callCs [z0, z1, z2, z3, z4, z5, z6] n).all (mayN (callCs [z0, z1, z2, z3, z4, z5, z6] n).length 0 ([] : List Int).length) = true := by
      simp only [callCs, List.map_cons, List.map_nil, List.cons_append, List.nil_append, List.all_cons, List.all_nil, mayN_num, mayN_call hM, mayN_stop, Bool.and_true]
    unfold mayNs
    rw [e]
    rfl, (.go [0, -1, -1, -1, -1, -1, -1, -1, -1] [] 0 [0, 1, -1, -1, -1, -1, -1, -1, -1] [1] _ (by rfl) (.go [0, 1, -1, -1, -1, -1, -1, -1, -1] [] 1 [0, 1, 2, -1, -1, -1, -1, -1, -1] [2] _ (by rfl) (.go [0, 1, 2, -1, -1, -1, -1, -1, -1] [] 2 [0, 1, 2, 3, -1, -1, -1, -1, -1] [3] _ (by rfl) (.go [0, 1, 2, 3, -1, -1, -1, -1, -1] [] 3 [0, 1, 2, 3, 4, -1, -1, -1, -1] [4] _ (by rfl) (.go [0, 1, 2, 3, 4, -1, -1, -1, -1] [] 4 [0, 1, 2, 3, 4, 5, -1, -1, -1] [5] _ (by rfl) (.go [0, 1, 2, 3, 4, 5, -1, -1, -1] [] 5 [0, 1, 2, 3, 4, 5, 6, -1, -1] [6] _ (by rfl) (.go [0, 1, 2, 3, 4, 5, 6, -1, -1] [] 6 [0, 1, 2, 3, 4, 5, 6, 7, -1] [7] _ (by rfl) (.go [0, 1, 2, 3, 4, 5, 6, 7, -1] [] 7 [0, 1, 2, 3, 4, 5, 6, 7, 0] [8] _ (by show (stepI ⟨28, n⟩ 7).bind _ = _; rw [show stepI ⟨28, n⟩ 7 = some 0 from step_callT (m := 7) h (by omega)]; rfl) (.go [0, 1, 2, 3, 4, 5, 6, 7, 0] [] 8 [0, 1, 2, 3, 4, 5, 6, 7, 0] [] _ (by rfl) (.stop _))))))))))⟩
theorem call8 (z0 z1 z2 z3 z4 z5 z6 z7 : Int) (n : Int) (hM : mayCl n = true) (h : n % 1024 / 32 = ((8 : Nat) : Int)) : HtR (callCs [z0, z1, z2, z3, z4, z5, z6, z7] n) 0 [] (some [0, 1, 2, 3, 4, 5, 6, 7, 8, 0]) :=
  .inr ⟨by
    have e : (callCs [z0, z1, z2, z3, z4, z5, z6, z7] n).all (mayN (callCs [z0, z1, z2, z3, z4, z5, z6, z7] n).length 0 ([] : List Int).length) = true := by
      simp only [callCs, List.map_cons, List.map_nil, List.cons_append, List.nil_append, List.all_cons, List.all_nil, mayN_num, mayN_call hM, mayN_stop, Bool.and_true]
    unfold mayNs
    rw [e]
    rfl, (.go [0, -1, -1, -1, -1, -1, -1, -1, -1, -1] [] 0 [0, 1, -1, -1, -1, -1, -1, -1, -1, -1] [1] _ (by rfl) (.go [0, 1, -1, -1, -1, -1, -1, -1, -1, -1] [] 1 [0, 1, 2, -1, -1, -1, -1, -1, -1, -1] [2] _ (by rfl) (.go [0, 1, 2, -1, -1, -1, -1, -1, -1, -1] [] 2 [0, 1, 2, 3, -1, -1, -1, -1, -1, -1] [3] _ (by rfl) (.go [0, 1, 2, 3, -1, -1, -1, -1, -1, -1] [] 3 [0, 1, 2, 3, 4, -1, -1, -1, -1, -1] [4] _ (by rfl) (.go [0, 1, 2, 3, 4, -1, -1, -1, -1, -1] [] 4 [0, 1, 2, 3, 4, 5, -1, -1, -1, -1] [5] _ (by rfl) (.go [0, 1, 2, 3, 4, 5, -1, -1, -1, -1] [] 5 [0, 1, 2, 3, 4, 5, 6, -1, -1, -1] [6] _ (by rfl) (.go [0, 1, 2, 3, 4, 5, 6, -1, -1, -1] [] 6 [0, 1, 2, 3, 4, 5, 6, 7, -1, -1] [7] _ (by rfl) (.go [0, 1, 2, 3, 4, 5, 6, 7, -1, -1] [] 7 [0, 1, 2, 3, 4, 5, 6, 7, 8, -1] [8] _ (by rfl) (.go [0, 1, 2, 3, 4, 5, 6, 7, 8, -1] [] 8 [0, 1, 2, 3, 4, 5, 6, 7, 8, 0] [9] _ (by show (stepI ⟨28, n⟩ 8).bind _ = _; rw [show stepI ⟨28, n⟩ 8 = some 0 from step_callT (m := 8) h (by omega)]; rfl) (.go [0, 1, 2, 3, 4, 5, 6, 7, 8, 0] [] 9 [0, 1, 2, 3, 4, 5, 6, 7, 8, 0] [] _ (by rfl) (.stop _)))))))))))⟩
theorem call_may (l : List Int) (n : Int) (hl : l.length ≤ 8) (hM : mayCl n = true) (h : n % 1024 / 32 = (l.length : Int)) : ∃ hs, HtR (callCs l n) 0 [] (some hs) := by
  match l, hl with
  | [], _ => exact ⟨_, call0  n hM h⟩
  | [z0], _ => exact ⟨_, call1 z0 n hM h⟩
  | [z0, z1], _ => exact ⟨_, call2 z0 z1 n hM h⟩
  | [z0, z1, z2], _ => exact ⟨_, call3 z0 z1 z2 n hM h⟩
  | [z0, z1, z2, z3], _ => exact ⟨_, call4 z0 z1 z2 z3 n hM h⟩
  | [z0, z1, z2, z3, z4], _ => exact ⟨_, call5 z0 z1 z2 z3 z4 n hM h⟩
  | [z0, z1, z2, z3, z4, z5], _ => exact ⟨_, call6 z0 z1 z2 z3 z4 z5 n hM h⟩
  | [z0, z1, z2, z3, z4, z5, z6], _ => exact ⟨_, call7 z0 z1 z2 z3 z4 z5 z6 n hM h⟩
  | [z0, z1, z2, z3, z4, z5, z6, z7], _ => exact ⟨_, call8 z0 z1 z2 z3 z4 z5 z6 z7 n hM h⟩
  | _ :: _ :: _ :: _ :: _ :: _ :: _ :: _ :: _ :: _, hl => exact absurd hl (by simp only [List.length_cons]; omega)
end Vm
end Go.Proofs.YtoiibphbogpojaaDoor
