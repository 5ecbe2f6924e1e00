/- Words beside wp_region_relJ: an operation that does not write, rows that are owned, what stays as it was. No program's text. (Of the texts of the group layer.) -/
import Derived.Test.YtonmojinijpneaaRelJ
import Derived.Lib.AppendZeros
namespace Go.Proofs.Ytonmojinijpneaa
open Go Go.RowKit
set_option linter.unusedVariables false
set_option linter.unusedSimpArgs false
theorem own_form {w : World} {B size n : Nat} {e : TypeId} {v : Value} {xs : List Value} (h : w.ownsRow B e size v n xs) : ∃ a c, v = .slice a n c := by
  rcases h.2 with ⟨rfl, h0⟩ | ⟨g, cap, cur, rfl, _⟩
  · exact ⟨none, 0, by rw [h0]⟩
  · exact ⟨_, _, rfl⟩
theorem own_belowR {w w' : World} {B size n : Nat} {e : TypeId} {v : Value} {xs : List Value} (h : w.ownsRow B e size v n xs) (hb : Below w.heap.size w w') : w'.ownsRow B e size v n xs := by
  refine ⟨h.1, h.2.imp id ?_⟩
  rintro ⟨g, cap, cur, rfl, hge, hh, r⟩
  exact ⟨g, cap, cur, rfl, hge, (hb.block g (Array.getElem?_eq_some_iff.1 hh).1).trans hh, r⟩
theorem own_setCell {w : World} {B size n : Nat} {e : TypeId} {v : Value} {xs : List Value} (h : w.ownsRow B e size v n xs) {p : Addr} (hp : v.ownBlock ≠ some p.block) (u : Value) : (w.setCell p u).ownsRow B e size v n xs := by
  refine ⟨h.1, h.2.imp id ?_⟩
  rintro ⟨g, cap, cur, rfl, hge, hh, r⟩
  have hne : g ≠ p.block := fun e => hp (by rw [← e]; rfl)
  exact ⟨g, cap, cur, rfl, hge, (Below.heap_setCell w p u g hne).trans hh, r⟩
/-- All blocks but those of some types are as they were. -/
def KeepsBut (tys : List TypeId) (w w' : World) : Prop := w.heap.size ≤ w'.heap.size ∧ ∀ (j : Nat) (c : Array Value) (ty : TypeId) (fz : Nat × Nat), w.heap[j]? = some (.cells c ty fz) → ¬ ty ∈ tys → w'.heap[j]? = w.heap[j]?
/-- All blocks that were there, but those of some numbers, are as they were. -/
def Only (S : List Nat) (w w' : World) : Prop := w.heap.size ≤ w'.heap.size ∧ ∀ j, j < w.heap.size → ¬ j ∈ S → w'.heap[j]? = w.heap[j]?
theorem KeepsBut.of_below {tys : List TypeId} {w w' : World} (h : Below w.heap.size w w') : KeepsBut tys w w' := ⟨h.size, fun j c ty fz hj _ => h.block j (Array.getElem?_eq_some_iff.1 hj).1⟩
theorem KeepsBut.trans {tys : List TypeId} {a b c : World} (h : KeepsBut tys a b) (k : KeepsBut tys b c) : KeepsBut tys a c :=
  ⟨Nat.le_trans h.1 k.1, fun j cs ty fz hj hty => (k.2 j cs ty fz ((h.2 j cs ty fz hj hty).trans hj) hty).trans (h.2 j cs ty fz hj hty)⟩
theorem KeepsBut.own {tys : List TypeId} {w w' : World} {B size n : Nat} {e : TypeId} {v : Value} {xs : List Value} (k : KeepsBut tys w w') (h : w.ownsRow B e size v n xs) (he : ¬ e ∈ tys) : w'.ownsRow B e size v n xs := by
  refine ⟨h.1, h.2.imp id ?_⟩
  rintro ⟨g, cap, cur, rfl, hge, hh, r⟩
  exact ⟨g, cap, cur, rfl, hge, (k.2 g _ _ _ hh he).trans hh, r⟩
section
variable {P : Program} {Q : Exit → Act → World → Prop} {R : Nat → Value → World → Prop} {K : World → World → Prop} {J : Option Value → World → Prop}
/-- What is owed of an operation that does not write. -/
theorem stepJ_of {l : List Oper} {a0 : Act} {w0 : World} {o : Oper} {b : Option Value} (hKB : ∀ w w', Below w.heap.size w w' → K w w') (hJB : ∀ b w w', J b w → Below w.heap.size w w' → J b w')
    (h : ∀ (a : Act) (w : World), K w0 w → J b w → (∀ t, t ∉ slotsOf l → a.eval (.tmp t) = a0.eval (.tmp t)) → (∀ t, t ∈ slotsOf l → Operand.tmp t ∈ o.op.operands → R t (a.eval (.tmp t)) w) →
      o.wp P a w (fun a' w' => ∃ v, a' = a.put o.dst v ∧ (∀ t, o.dst = some t → R t v w') ∧ Below w.heap.size w w') Q) : StepJ P Q R K J l a0 w0 o b fun _ => b :=
  fun a w hk hj hsm hr => Oper.wp_mono (fun _ _ ⟨v, e1, e2, e3⟩ => ⟨v, e1, e2, hKB _ _ e3, hJB _ _ _ hj e3⟩) (h a w hk hj hsm hr)
end
theorem grown_of_below {w w' : World} {r : Option Nat} (h : Below w.heap.size w w') : w.grownBy w' r := ⟨h.os, h.tape, h.output, h.size, fun k hk _ => h.block k hk⟩
theorem gtrans {a b c : World} {r : Option Nat} (h : a.grownBy b r) (k : b.grownBy c r) : a.grownBy c r :=
  ⟨k.os.trans h.os, k.tape.trans h.tape, k.output.trans h.output, Nat.le_trans h.size k.size, fun i hi hr => (k.block i (Nat.lt_of_lt_of_le hi h.size) hr).trans (h.block i hi hr)⟩
theorem Only.of_below {S : List Nat} {w w' : World} (h : Below w.heap.size w w') : Only S w w' := ⟨h.size, fun j hj _ => h.block j hj⟩
theorem Only.of_grown {S : List Nat} {w w' : World} {g : Nat} (h : w.grownBy w' (some g)) (hg : g ∈ S) : Only S w w' := ⟨h.size, fun j hj hn => h.block j hj fun e => hn (by injection e with e; rw [e]; exact hg)⟩
theorem Only.set_ {S : List Nat} (w : World) {p : Addr} (u : Value) (hp : p.block ∈ S) : Only S w (w.setCell p u) := ⟨by simp [World.setCell], fun j _ hn => Below.heap_setCell w p u j fun e => hn (e ▸ hp)⟩
theorem Only.trans {S : List Nat} {a b c : World} (h : Only S a b) (k : Only S b c) : Only S a c := ⟨Nat.le_trans h.1 k.1, fun j hj hn => (k.2 j (Nat.lt_of_lt_of_le hj h.1) hn).trans (h.2 j hj hn)⟩
/-- Where the blocks that were written are of some types. -/
theorem Only.keeps {S : List Nat} {tys : List TypeId} {w w' : World} (h : Only S w w') (ht : ∀ j c ty fz, j ∈ S → w.heap[j]? = some (.cells c ty fz) → ty ∈ tys) : KeepsBut tys w w' :=
  ⟨h.1, fun j c ty fz hj hn => h.2 j (Array.getElem?_eq_some_iff.1 hj).1 fun hm => hn (ht j c ty fz hm hj)⟩
theorem own_type {w : World} {B size n c g : Nat} {e : TypeId} {xs : List Value} (h : w.ownsRow B e size (.slice (some ⟨g, 0, none⟩) n c) n xs) : ∃ cs, Blk w g e cs := by
  rcases h.2 with ⟨h1, _⟩ | ⟨g', cap, cur, hv, _, hh, _⟩
  · cases h1
  · injection hv with h1
    injection h1 with h1
    injection h1 with h1
    subst h1
    exact ⟨_, hh⟩
theorem blk_type {w : World} {g : Nat} {e ty : TypeId} {cs c : Array Value} {fz : Nat × Nat} (h : Blk w g e cs) (hc : w.heap[g]? = some (.cells c ty fz)) : ty = e := by
  unfold Blk at h
  rw [h] at hc
  injection hc with hc
  injection hc with _ hc
  exact hc.symm
end Go.Proofs.Ytonmojinijpneaa
