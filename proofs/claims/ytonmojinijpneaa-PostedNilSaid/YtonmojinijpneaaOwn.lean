/- Rows that are owned, blocks that are kept, boxes, in plain words (of the texts of the path and group layers). No program's text. -/
import Derived.Test.YtonmojinijpneaaRelK
namespace Go.Proofs.Ytonmojinijpneaa
open Go Go.RowKit
set_option linter.unusedVariables false
set_option linter.unusedSimpArgs false
theorem own_block {w : World} {B size n : Nat} {e : TypeId} {v : Value} {xs : List Value} (h : w.ownsRow B e size v n xs) {g : Nat} (hg : v.ownBlock = some g) : B ≤ g ∧ g < w.heap.size ∧ ∃ cs, Blk w g e cs := by
  rcases h.2 with ⟨rfl, _⟩ | ⟨g', cap, cur, rfl, hge, hh, _⟩
  · simp [Value.ownBlock] at hg
  · obtain rfl : g' = g := by simpa [Value.ownBlock] using hg
    exact ⟨hge, (Array.getElem?_eq_some_iff.1 hh).1, cur, hh⟩
theorem own_set {w : World} {B g c size n k : Nat} {e : TypeId} {xs : List Value} (h : w.ownsRow B e size (.slice (some ⟨g, 0, none⟩) n c) n xs) (u : Value) : (w.setCell ⟨g, k, none⟩ u).ownsRow B e size (.slice (some ⟨g, 0, none⟩) n c) n (xs.set k u) := by
  refine ⟨by rw [List.length_set]; exact h.1, ?_⟩
  rcases h.2 with ⟨h1, _⟩ | ⟨g', cap, cur, hv, hge, hh, hnc, hm, hcs, htk⟩
  · cases h1
  · injection hv with h1 h2 h3
    injection h1 with h1
    injection h1 with h1
    subst h1
    subst h3
    have hb := (show Blk w g _ cur from hh).set_ k u
    exact .inr ⟨g, c, cur.setIfInBounds k u, rfl, hge, hb, hnc, hm, by rw [Array.size_setIfInBounds]; exact hcs, by rw [Array.toList_setIfInBounds, List.take_set, htk]⟩
/-- A row that is cut at its end. -/
theorem own_shrink {w : World} {B g c size n m : Nat} {e : TypeId} {xs : List Value} (h : w.ownsRow B e size (.slice (some ⟨g, 0, none⟩) n c) n xs) (hm : m ≤ n) : w.ownsRow B e size (.slice (some ⟨g, 0, none⟩) m c) m (xs.take (m * size)) := by
  have hms : m * size ≤ n * size := Nat.mul_le_mul_right _ hm
  refine ⟨by rw [List.length_take, h.1]; omega, ?_⟩
  rcases h.2 with ⟨h1, _⟩ | ⟨g', cap, cur, hv, hge, hh, hnc, hmx, hcs, htk⟩
  · cases h1
  · injection hv with h1 h2 h3
    injection h1 with h1
    injection h1 with h1
    subst h1
    subst h3
    exact .inr ⟨g, c, cur, rfl, hge, hh, by omega, hmx, hcs, by rw [← htk, List.take_take, Nat.min_eq_left hms]⟩
/-- A row's cells, where it has an element. -/
theorem own_cell {w : World} {B size n : Nat} {e : TypeId} {A : Option Addr} {c m : Nat} {xs : List Value} (h : w.ownsRow B e size (.slice A m c) n xs) (hn : 0 < n) : ∃ g, A = some ⟨g, 0, none⟩ ∧ B ≤ g ∧ m = n ∧ (∃ cs, Blk w g e cs) ∧ (∀ k, w.frozen? ⟨g, k, none⟩ = false) ∧ n ≤ c ∧ ∀ k u, xs[k]? = some u → w.cell? ⟨g, k, none⟩ = some u := by
  rcases h.2 with ⟨_, h0⟩ | ⟨g, cap, cur, hv, hge, hh, hnc, _, hcs, htk⟩
  · omega
  · injection hv with h1 h2 h3
    subst h1
    subst h2
    subst h3
    have hB : Blk w g e cur := hh
    refine ⟨g, rfl, hge, rfl, ⟨cur, hB⟩, hB.frozen, hnc, fun k u hu => ?_⟩
    rw [← htk, List.getElem?_take] at hu
    split at hu
    · rw [hB.cell]
      simpa using hu
    · cases hu
theorem grown_keeps {w w' : World} {B size n : Nat} {e : TypeId} {v : Value} {xs : List Value} (h : w.ownsRow B e size v n xs) (hg : w.grownBy w' v.ownBlock) : KeepsBut [e] w w' := by
  refine ⟨hg.size, fun j cs ty fz hj hty => hg.block j (Array.getElem?_eq_some_iff.1 hj).1 fun e' => hty ?_⟩
  obtain ⟨_, _, cs', hcs'⟩ := own_block h e'.symm
  rw [blk_type hcs' hj]
  exact List.mem_cons_self
theorem keeps_set {w : World} {p : Addr} {ty : TypeId} {cs : Array Value} (h : Blk w p.block ty cs) (v : Value) : KeepsBut [ty] w (w.setCell p v) := by
  refine ⟨by simp [World.setCell], fun j cs' ty' fz hj hty => Below.heap_setCell w p v j fun e' => hty ?_⟩
  have e' : j = p.block := e'
  subst e'
  rw [blk_type h hj]
  exact List.mem_cons_self
section
variable {w w' : World} {B C : Nat}
theorem own_more {size n : Nat} {e : TypeId} {v : Value} {xs : List Value} (h : w.ownsRow B e size v n xs) (hC : C ≤ B) : w.ownsRow C e size v n xs := by
  refine ⟨h.1, h.2.imp id ?_⟩
  rintro ⟨g, cap, cur, rfl, hge, r⟩
  exact ⟨g, cap, cur, rfl, Nat.le_trans hC hge, r⟩
theorem KeepsBut.blk {tys : List TypeId} {g : Nat} {t : TypeId} {cs : Array Value} (k : KeepsBut tys w w') (h : Blk w g t cs) (ht : ¬ t ∈ tys) : Blk w' g t cs := (k.2 g _ _ (0, 0) h ht).trans h
end
theorem own_cap {w : World} {B c size n m : Nat} {A : Option Addr} {e : TypeId} {xs : List Value} (h : w.ownsRow B e size (.slice A m c) n xs) : n ≤ c := by
  rcases h.2 with ⟨h1, h2⟩ | ⟨g', cap, cur, hv, _, _, hnc, _⟩
  · omega
  · injection hv with _ _ h3
    omega
theorem own_cut {w : World} {B c size n m : Nat} {A : Option Addr} {e : TypeId} {xs : List Value} (h : w.ownsRow B e size (.slice A n c) n xs) (hm : m ≤ n) : w.ownsRow B e size (.slice A m c) m (xs.take (m * size)) := by
  rcases h.2 with ⟨h1, h2⟩ | ⟨g', cap, cur, hv, _⟩
  · injection h1 with h3 _ h4
    subst h3
    subst h4
    subst h2
    have : m = 0 := by omega
    subst this
    exact ⟨by simp, .inl ⟨rfl, rfl⟩⟩
  · injection hv with h1
    subst h1
    exact own_shrink h hm
theorem add_lit (g n : Nat) : (⟨g, 0, none⟩ : Addr).add n = ⟨g, n, none⟩ := by unfold Addr.add; split <;> simp_all
theorem info_parts {P : Program} {t : TypeId} {z : Value} {size bytes : Nat} (h : (P.info? t).map (fun i => (i.zero, i.size, i.bytes)) = some (some z, size, bytes)) : ∃ i, P.info? t = some i ∧ i.zero = some z ∧ i.size = size ∧ i.bytes = bytes := by
  cases hi : P.info? t with
  | none => rw [hi] at h; cases h
  | some i =>
    rw [hi] at h
    simp only [Option.map_some, Option.some.injEq, Prod.mk.injEq] at h
    exact ⟨i, rfl, h.1, h.2.1, h.2.2⟩
theorem box4 (w : World) (t : TypeId) (d0 d1 d2 d3 c0 c1 c2 c3 : Value) :
    Blk (((((w.alloc (.cells #[d0, d1, d2, d3] t)).setCell ⟨w.heap.size, 0, none⟩ c0).setCell ⟨w.heap.size, 1, none⟩ c1).setCell ⟨w.heap.size, 2, none⟩ c2).setCell ⟨w.heap.size, 3, none⟩ c3) w.heap.size t #[c0, c1, c2, c3] ∧
    Below w.heap.size w (((((w.alloc (.cells #[d0, d1, d2, d3] t)).setCell ⟨w.heap.size, 0, none⟩ c0).setCell ⟨w.heap.size, 1, none⟩ c1).setCell ⟨w.heap.size, 2, none⟩ c2).setCell ⟨w.heap.size, 3, none⟩ c3) :=
  ⟨((((Blk.new w t #[d0, d1, d2, d3]).set_ 0 c0).set_ 1 c1).set_ 2 c2).set_ 3 c3,
   (((((Below.refl _ w).alloc (Nat.le_refl _) _).setCell (p := ⟨w.heap.size, 0, none⟩) (Nat.le_refl _) _).setCell (p := ⟨w.heap.size, 1, none⟩) (Nat.le_refl _) _).setCell (p := ⟨w.heap.size, 2, none⟩) (Nat.le_refl _) _).setCell (p := ⟨w.heap.size, 3, none⟩) (Nat.le_refl _) _⟩
theorem box2 (w : World) (t : TypeId) (d0 d1 c0 c1 : Value) :
    Blk (((w.alloc (.cells #[d0, d1] t)).setCell ⟨w.heap.size, 0, none⟩ c0).setCell ⟨w.heap.size, 1, none⟩ c1) w.heap.size t #[c0, c1] ∧
    Below w.heap.size w (((w.alloc (.cells #[d0, d1] t)).setCell ⟨w.heap.size, 0, none⟩ c0).setCell ⟨w.heap.size, 1, none⟩ c1) :=
  ⟨((Blk.new w t #[d0, d1]).set_ 0 c0).set_ 1 c1,
   (((Below.refl _ w).alloc (Nat.le_refl _) _).setCell (p := ⟨w.heap.size, 0, none⟩) (Nat.le_refl _) _).setCell (p := ⟨w.heap.size, 1, none⟩) (Nat.le_refl _) _⟩
theorem KeepsBut.wide {t1 t2 : List TypeId} {w w' : World} (h : KeepsBut t1 w w') (hs : ∀ t ∈ t1, t ∈ t2) : KeepsBut t2 w w' := ⟨h.1, fun j c ty fz hj hn => h.2 j c ty fz hj fun hm => hn (hs ty hm)⟩
end Go.Proofs.Ytonmojinijpneaa
