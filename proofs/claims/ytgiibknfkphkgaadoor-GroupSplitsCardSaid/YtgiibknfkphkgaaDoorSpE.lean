/- slices.SortFunc at no element. -/
import Derived.Test.YtgiibknfkphkgaaDoorRows
import Derived.Test.YtgiibknfkphkgaaDoorSpD
import Derived.Test.YtgiibknfkphkgaaDoorShelf
import Derived.LoopN
namespace Go.Proofs.YtgiibknfkphkgaaDoor
open Go Go.RowKit
set_option linter.unusedVariables false
set_option linter.unusedSimpArgs false
namespace Sp
theorem ins_nil (A : Option Addr) (cap : Nat) (f : Value) (w : World) : Calls Tryd.prog 42 #[.slice A 0 cap, .int .i64 0, .int .i64 0, f] w fun e w' => e = .returned (.tuple #[]) ∧ w' = w := by
  go_enter Tryd.func42, Tryd.ntmps42
  go_wp2
  refine wp_loop_rounds 1 ?_
  rw [rounds_succ]
  go_wp2
  go_end0
  exact ⟨rfl, rfl⟩
theorem pdq_nil (A : Option Addr) (cap : Nat) (f : Value) (x : Int) (w : World) : Calls Tryd.prog 38 #[.slice A 0 cap, .int .i64 0, .int .i64 0, .int .i64 x, f] w fun e w' => e = .returned (.tuple #[]) ∧ w' = w := by
  have IC := hide (ins_nil A cap f w)
  go_enter Tryd.func38, Tryd.ntmps38
  go_wp2_with fail
  refine wp_loop_rounds 1 ?_
  rw [rounds_succ]
  go_wp2_with fail
  refine IC.out.mono ?_
  rintro e w' ⟨rfl, rfl⟩
  go_wp2_with fail
  first
    | (go_end0; exact ⟨rfl, rfl⟩)
    | (refine bodyPost_ret (results_none rfl _ _ _) rfl ?_; exact ⟨rfl, rfl⟩)
theorem sort_nil (A : Option Addr) (cap : Nat) (f : Value) (w : World) : Calls Tryd.prog 29 #[.slice A 0 cap, f] w fun e w' => e = .returned (.tuple #[]) ∧ w' = w := by
  have LC := hide (Tryd.bits_Len 0 w (by omega) (by omega))
  have PC := hide (fun x => pdq_nil A cap f x w)
  go_enter Tryd.func29, Tryd.ntmps29
  go_wp2_with fail
  refine LC.out.mono ?_
  rintro e w' ⟨rfl, rfl⟩
  go_wp2_with fail
  refine (PC.out _).mono ?_
  rintro e w' ⟨rfl, rfl⟩
  go_wp2_with fail
  go_end0
  exact ⟨rfl, rfl⟩
/-- What is asked. -/
def aqC (q : List (Int × Int)) : List Value := q.flatMap fun x => [.int .i64 x.1, .int .i64 x.2]
theorem aqC_at : ∀ (q : List (Int × Int)) (i : Nat) (hi : i < q.length), (aqC q)[i * 2]? = some (.int .i64 q[i].1) ∧ (aqC q)[i * 2 + 1]? = some (.int .i64 q[i].2)
  | t :: l, 0, _ => ⟨rfl, rfl⟩
  | t :: l, i + 1, hi => by
    have ih := aqC_at l i (by simpa using hi)
    have e : aqC (t :: l) = .int .i64 t.1 :: .int .i64 t.2 :: aqC l := rfl
    rw [e, show (i + 1) * 2 = i * 2 + 1 + 1 by omega]
    simpa using ih
def AskR (w : World) (A : Option Addr) (q : List (Int × Int)) : Prop := Reads w w.heap.size 2 A q.length (aqC q)
theorem AskR.below {w w' : World} {A : Option Addr} {q : List (Int × Int)} (h : AskR w A q) (hb : Below w.heap.size w w') : AskR w' A q := Reads.more (Reads.below h hb) hb.size
theorem AskR.at_ {w : World} {A : Option Addr} {q : List (Int × Int)} (h : AskR w A q) {i : Nat} (hi : i < q.length) : ∃ a, A = some a ∧ a.block < w.heap.size ∧ w.cell? (a.add (i * 2)) = some (.int .i64 q[i].1) ∧ w.cell? ⟨(a.add (i * 2)).block, (a.add (i * 2)).off + 1, none⟩ = some (.int .i64 q[i].2) := by
  obtain ⟨a, rfl, hlt, hc⟩ := h.2 (by omega)
  obtain ⟨h1, h2⟩ := aqC_at q i hi
  refine ⟨a, rfl, hlt, hc _ _ h1, ?_⟩
  have h3 := hc _ _ h2
  have e : a.add (i * 2 + 1) = ⟨(a.add (i * 2)).block, (a.add (i * 2)).off + 1, none⟩ := by
    unfold Addr.add
    rw [if_neg (by omega)]
    split
    · rename_i e0
      rw [e0]
    · rfl
  rw [← e]
  exact h3
/-- Those of the first i that ask for a color. -/
def askL (q : List (Int × Int)) (l : List Int) : Nat → List Ak
  | 0 => []
  | i + 1 => askL q l i ++ (if 0 ≤ (q.getD i (0, 0)).1 then [⟨(q.getD i (0, 0)).1, (q.getD i (0, 0)).2, i, l.getD i 0⟩] else [])
theorem askL_len (q : List (Int × Int)) (l : List Int) : ∀ i, (askL q l i).length ≤ i
  | 0 => Nat.le_refl _
  | i + 1 => by
    have := askL_len q l i
    rw [askL, List.length_append]
    split <;> simp <;> omega
def akCs (l : List Ak) : List Value := l.flatMap akC
theorem akCs_app (a b : List Ak) : akCs (a ++ b) = akCs a ++ akCs b := by simp [akCs]
theorem akCs_at : ∀ (l : List Ak) (i : Nat) (hi : i < l.length) (j : Nat), j < 4 → (akCs l)[i * 4 + j]? = (akC l[i])[j]?
  | t :: l, 0, _, j, hj => by
    rw [show akCs (t :: l) = akC t ++ akCs l from rfl, List.getElem?_append_left (by show _ < 4; omega)]
    simp
  | t :: l, i + 1, hi, j, hj => by
    rw [show akCs (t :: l) = akC t ++ akCs l from rfl, List.getElem?_append_right (by show 4 ≤ _; omega)]
    have := akCs_at l i (by simpa using hi) j hj
    rw [show (i + 1) * 4 + j - (akC t).length = i * 4 + j by show (i + 1) * 4 + j - 4 = _; omega]
    simpa using this
end Sp
end Go.Proofs.YtgiibknfkphkgaaDoor
