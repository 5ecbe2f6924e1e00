/- The program's copy of a row of whole numbers. -/
import Derived.Test.YtoiibphbogpojaaDoorRows
import Derived.Test.YtoiibphbogpojaaDoorVmI
namespace Go.Proofs.YtoiibphbogpojaaDoor
open Go Go.RowKit Go.Lib Go.Proofs.YtoiibphbogpojaaDoor.Cod
set_option linter.unusedVariables false
set_option linter.unusedSimpArgs false
namespace Vm
set_option maxRecDepth 100000 in
set_option maxHeartbeats 4000000 in
theorem copied_no (A : Option Addr) (cc : Nat) (w : World) :
    Calls Tryd.prog 42 #[.slice A 0 cc] w fun e w' => e = .returned (.slice none 0 0) ∧ w' = w := by
  go_enter Tryd.func42, Tryd.ntmps42
  go_wp2_with fail
  go_ret
  exact ⟨rfl, rfl⟩
set_option maxRecDepth 100000 in
set_option maxHeartbeats 4000000 in
theorem copied_yes (g n cc : Nat) (vals : List Value) (w : World) (hn : n ≤ 1000) (h0 : 0 < n) (hl : vals.length = n) (h1 : ∀ v ∈ vals, v.oneCell' = true)
    (hg : g < w.heap.size) (hc : ∀ (j : Nat) (v : Value), vals[j]? = some v → w.cell? ⟨g, j, none⟩ = some v) :
    Calls Tryd.prog 42 #[.slice (some ⟨g, 0, none⟩) n cc] w fun e w' => ∃ (h : Nat) (cur : Array Value), e = .returned (.slice (some ⟨h, 0, none⟩) n n) ∧ w.heap.size ≤ h ∧ Blk w' h 3 cur ∧ (∀ (j : Nat) (v : Value), vals[j]? = some v → cur[j]? = some v) ∧ Below w.heap.size w w' := by
  have a3 := Blk.new w 3 (Array.replicate n (.int .i64 0))
  have b3 : Below w.heap.size w (w.alloc (.cells (Array.replicate n (.int .i64 0)) 3)) := (Below.refl _ _).alloc (Nat.le_refl _) _
  obtain ⟨w3, hw3⟩ : ∃ y, w.alloc (.cells (Array.replicate n (.int .i64 0)) 3) = y := ⟨_, rfl⟩
  rw [hw3] at a3 b3
  have RUN : ∀ ty, (Builtin.copy_ #[25, 25] ty #[.slice (some ⟨w.heap.size, 0, none⟩) n n, .slice (some ⟨g, 0, none⟩) n cc]).run Tryd.prog w3 = .ok (goInt n) (w3.setCells w.heap.size 0 vals) := fun ty => by
    refine run_copy_rows w3 _ _ ty 3 w.heap.size 0 n n ⟨g, 0, none⟩ n cc 1 n vals Tryd.underlying25 (by kernel_rfl) (Nat.min_self n) (by rw [hl, Nat.mul_one]) (fun j v hv => ?_) (fun j hj => ?_) (fun j hj => a3.frozen _) h1
    · rw [show (⟨g, 0, none⟩ : Addr).add j = ⟨g, j, none⟩ by unfold Addr.add; split <;> simp_all]
      exact (World.cell?_of_block (w := w) (a := ⟨g, j, none⟩) (b3.block g hg)).trans (hc j v hv)
    · rw [a3.cell, Nat.zero_add, Array.getElem?_eq_getElem (by simpa using hl ▸ hj)]
      rfl
  have m2 := setAll_blk vals 0 a3
  have mb : Below w.heap.size w (w3.setCells w.heap.size 0 vals) := Cod.below_setCells (Nat.le_refl _) vals 0 b3
  have hcur : ∀ (j : Nat) (v : Value), vals[j]? = some v → (setAll (Array.replicate n (.int .i64 0)) 0 vals)[j]? = some v := fun j v hv => by
    have hj : j < vals.length := (List.getElem?_eq_some_iff.1 hv).1
    rw [setAll_get _ _ _ _ (by simp; omega), if_pos ⟨Nat.zero_le _, by omega⟩, Nat.sub_zero]
    exact hv
  have MK := fun W => mkI n (by omega) W
  have R2 := hide (And.intro m2 (And.intro hcur mb))
  have E3 := hide hw3
  have g0 : ¬ (n : Int) = 0 := by omega
  clear hc hl h1 a3 b3 hw3 m2 mb hcur
  go_enter Tryd.func42, Tryd.ntmps42
  go_wp2_with fail
  rw [E3.out, RUN]
  go_simp
  go_wp2_with fail
  go_ret
  exact ⟨_, _, rfl, Nat.le_refl _, R2.out.1, R2.out.2.1, R2.out.2.2⟩
end Vm
end Go.Proofs.YtoiibphbogpojaaDoor
