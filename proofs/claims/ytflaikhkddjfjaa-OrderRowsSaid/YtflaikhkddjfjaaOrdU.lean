/- A function that has gone through ranges over functions in a loop leaves: each round has laid a block for deferred calls, and none was put in. -/
import Derived.Test.YtflaikhkddjfjaaOrdT
import Derived.RangeFuncLeaves
import Derived.RangeFuncRecord
namespace Go.Proofs.Ytflaikhkddjfjaa
open Go
set_option linter.unusedVariables false
namespace Ord
def mark (D : Nat) : Deferred := { target := .collected D, args := #[] }
theorem leavesM_collected {P : Program} {F : Fence} {n : Nat} {fn : Func} {tmps : Array Value} {R : Ending → World → Prop} {S : World → Prop} {base : Nat} (hS : ∀ w D, base ≤ D → w.heap[D]? = some (.deferred (some [])) → S w → S (w.putObj D (.deferred none)))
    (hf : ∀ w, S w → LeavesIn F n P fn tmps R [] .returning w) : ∀ (Ds : List Nat) (w : World), Ds.Nodup → (∀ D ∈ Ds, base ≤ D ∧ w.heap[D]? = some (.deferred (some []))) → S w → LeavesInM F n P fn tmps R (Ds.map mark) .returning w
  | [], w, _, _, hs => hf w hs
  | D :: Ds, w, hn, hd, hs => by
    obtain ⟨hb, h0⟩ := hd D List.mem_cons_self
    refine ⟨by simp, .inl ⟨D, _, rfl, run_takeDeferred h0, ?_⟩⟩
    refine leavesM_collected hS hf Ds _ (List.nodup_cons.1 hn).2 (fun E hE => ?_) (hS w D hb h0 hs)
    have hne : E ≠ D := fun e => (List.nodup_cons.1 hn).1 (e ▸ hE)
    obtain ⟨hbE, h1⟩ := hd E (List.mem_cons_of_mem _ hE)
    refine ⟨hbE, ?_⟩
    have : (w.putObj D (.deferred none)).heap[E]? = w.heap[E]? := by
      simp [World.putObj, Ne.symm hne]
    rw [this]
    exact h1
end Ord
end Go.Proofs.Ytflaikhkddjfjaa
