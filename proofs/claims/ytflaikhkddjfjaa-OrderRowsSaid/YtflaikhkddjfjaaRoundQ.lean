/- A region that draws and only reads, within a round of a range over a function. No program's text. -/
import Derived.Test.YtflaikhkddjfjaaRows
import Derived.Sort.QuietIn
import Derived.RangeFuncCalls
import Derived.OwnWalkIn
namespace Go.Proofs.Ytflaikhkddjfjaa
open Go
set_option linter.unusedVariables false
section
variable {F : Fence} {n : Nat} {P : Program} {md : Region.Mode} {ops : Array Oper} {Q : Exit → Act → World → Prop}
def noDefer (o : Oper) : Bool := match o.op with | .defer _ => false | _ => true
theorem noDefer_ne {o : Oper} (h : noDefer o = true) : ∀ c, o.op ≠ .defer c := fun c e => by
  unfold noDefer at h
  rw [e] at h
  cases h
theorem wpIn_round {l : Nat} (hro : F.round = none) {o : Oper} (hd : noDefer o = true) {a : Act} {w : World} {K K' : Act → World → Prop} (hK : ∀ a w, K a w → K' a w) (h : o.wpIn F n P a w K Q) : o.wpIn (F.inRound l) n P a w K' Q := by
  have h2 := h.2
  rw [Oper.semAt_plain F _ _ (noDefer_ne hd)] at h2
  refine ⟨h.1, ?_⟩
  rw [Oper.semAt_plain (F.inRound l) _ _ (noDefer_ne hd)]
  generalize (execOp a.eval o).run P w = r at h2 ⊢
  cases r with
  | halt hh w' => cases hh <;> first | exact h2 | exact h2.elim
  | ok nx w' =>
    cases nx with
    | value v => exact hK _ _ h2
    | skip => exact hK _ _ h2
    | defer d => exact hK _ _ h2
    | enter f args => exact ⟨h2.1, CallsIn.inRound l (h2.2.mono fun e w1 he => by
        cases e with
        | returned v => exact hK _ _ he
        | panicked c => exact he
        | outgrown => exact he)⟩
    | row row args => exact ⟨h2.1, RowsIn.mono (F := F) h2.2 fun v w1 he => hK _ _ he⟩
    | round l' f tmps assign body => exact ⟨h2.1, RoundIn.mono (F := F) h2.2 fun e w1 he => by
        cases e with
        | returned v => exact hK _ _ he
        | panicked c => exact he
        | outgrown => exact he⟩
    | _ => exact h2.elim
theorem wpAnyIn_round {l : Nat} (hro : F.round = none) (hd : ops.toList.all noDefer = true) : ∀ (k : Nat) (listed : Array Bool) (a : Act) (w : World), wpAnyIn F n P md ops Q k listed a w → wpAnyIn (F.inRound l) n P md ops Q k listed a w
  | 0, _, _, _, h => h
  | k + 1, listed, a, w, h => ⟨h.1, fun i hi => by
      have h2 := h.2 i hi
      unfold wpOpIn at h2 ⊢
      cases ho : ops[i]? with
      | none => rw [ho] at h2; exact wpAnyIn_round hro hd k _ _ _ h2
      | some o =>
        rw [ho] at h2
        dsimp only at h2 ⊢
        have hno : noDefer o = true := List.all_eq_true.1 hd o (by
          obtain ⟨h1, e⟩ := Array.getElem?_eq_some_iff.1 ho
          rw [← e]
          exact Array.getElem_mem_toList h1)
        by_cases hw : Region.wanted o (yielded ops a.tmps) = true
        · rw [if_pos hw] at h2 ⊢
          exact wpIn_round hro hno (fun a w h => wpAnyIn_round hro hd k _ _ _ h) h2
        · rw [if_neg hw] at h2 ⊢
          exact ⟨h2.1, wpAnyIn_round hro hd k _ _ _ h2.2⟩⟩
/-- Within a round: a region that draws and only reads, in the order of the text. -/
theorem wpIn_round_quiet {id lp : Nat} {a : Act} {w : World} {l : List Oper} (hro : F.round = none) (hd : l.all noDefer = true) (hm : P.follows .mixedOrders = true) (hB : Region.lexB .any l.toArray = true)
    (h : wpQuietIn F n P l.toArray (fun w' => ∃ n, w' = w.drewN n) (fun a' => ∀ w', (∃ n, w' = w.drewN n) → Q .normal a' w') l a) : (Code.region id l.toArray true).wpIn (F.inRound lp) n P Q a w := by
  simp only [Region.lexB, Bool.and_eq_true] at hB
  refine wpIn_region_any hm (wpAnyIn_round hro (by simpa using hd) _ _ _ _ (wpAnyIn_of_quiet (C := fun w' => ∃ n, w' = w.drewN n) (Q := fun a' => ∀ w', (∃ n, w' = w.drewN n) → Q .normal a' w') hro (fun _ w' hw' h => h w' hw') _ _ _ _ ⟨1, rfl⟩ ?_))
  have := wpAnyQIn_lex (F := F) (n := n) (C := fun w' => ∃ n, w' = w.drewN n) (md := .any) hB.1 l.toArray.toList 0 (Array.replicate l.toArray.size false) a (by simp) (by simpa using hB.2) (by simpa using h)
  simpa using this
end
end Go.Proofs.Ytflaikhkddjfjaa
