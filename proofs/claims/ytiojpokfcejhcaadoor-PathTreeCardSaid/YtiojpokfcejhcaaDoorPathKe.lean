/- What stays where blocks of some types are written. -/
import Derived.Test.YtiojpokfcejhcaaDoorRows
import Derived.Test.YtiojpokfcejhcaaDoorPathD
namespace Go.Proofs.YtiojpokfcejhcaaDoor
open Go Go.RowKit
set_option linter.unusedVariables false
set_option linter.unusedSimpArgs false
namespace Pth
theorem VRow.keeps {tys : List TypeId} {w w' : World} {A : Option Addr} {l : List Ch} (h : VRow w A l) (k : KeepsBut tys w w') (hn : ¬ 47 ∈ tys) : VRow w' A l := by
  obtain ⟨g, cs, e, hb, r⟩ := h
  exact ⟨g, cs, e, (k.2 g cs _ (0, 0) hb hn).trans hb, r⟩
theorem grown_keeps {w w' : World} {B size n : Nat} {e : TypeId} {v : Value} {xs : List Value} (h : w.ownsRow B e size v n xs) (hg : w.grownBy w' v.ownBlock) : KeepsBut [e] w w' := by
  refine ⟨hg.size, fun j cs ty fz hj hty => hg.block j (Array.getElem?_eq_some_iff.1 hj).1 fun e' => hty ?_⟩
  obtain ⟨_, _, cs', hcs'⟩ := own_block h e'.symm
  rw [blk_type hcs' hj]
  exact List.mem_cons_self
theorem keeps_set {w : World} {p : Addr} {ty : TypeId} {cs : Array Value} (h : Blk w p.block ty cs) (v : Value) : KeepsBut [ty] w (w.setCell p v) := by
  refine ⟨by simp [World.setCell], fun j cs' ty' fz hj hty => Below.heap_setCell w p v j fun e' => hty ?_⟩
  have e' : j = p.block := e'
  subst e'
  rw [blk_type h hj]
  exact List.mem_cons_self
section
variable {w w' : World} {T U B C : Nat} {ls : List Lv}
theorem own_more {size n : Nat} {e : TypeId} {v : Value} {xs : List Value} (h : w.ownsRow B e size v n xs) (hC : C ≤ B) : w.ownsRow C e size v n xs := by
  refine ⟨h.1, h.2.imp id ?_⟩
  rintro ⟨g, cap, cur, rfl, hge, r⟩
  exact ⟨g, cap, cur, rfl, Nat.le_trans hC hge, r⟩
theorem StA.more (h : StA w T B ls) (hC : C ≤ B) : StA w T C ls := by
  obtain ⟨v, h1, h2⟩ := h.tab
  exact ⟨h.le, ⟨v, h1, own_more h2 hC⟩, h.rows⟩
theorem StA.keep {tys : List TypeId} (h : StA w T B ls) (k : KeepsBut tys w w') (h1 : ¬ 54 ∈ tys) (h2 : ¬ 59 ∈ tys) (h3 : ¬ 47 ∈ tys) : StA w' T B ls := by
  obtain ⟨v, b, o⟩ := h.tab
  exact ⟨h.le, ⟨v, (k.2 T _ _ (0, 0) b h1).trans b, KeepsBut.own k o h2⟩, fun i hi => (h.rows i hi).keeps k h3⟩
theorem KeepsBut.blk {tys : List TypeId} {g : Nat} {t : TypeId} {cs : Array Value} (k : KeepsBut tys w w') (h : Blk w g t cs) (ht : ¬ t ∈ tys) : Blk w' g t cs := (k.2 g _ _ (0, 0) h ht).trans h
end
theorem own_cap {w : World} {B c size n m : Nat} {A : Option Addr} {e : TypeId} {xs : List Value} (h : w.ownsRow B e size (.slice A m c) n xs) : n ≤ c := by
  rcases h.2 with ⟨h1, h2⟩ | ⟨g', cap, cur, hv, _, _, hnc, _⟩
  · omega
  · injection hv with _ _ h3
    omega
end Pth
end Go.Proofs.YtiojpokfcejhcaaDoor
