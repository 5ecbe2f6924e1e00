/- What a rank tells of itself when it is done, or at fault. -/
import Derived.Test.YtoiibphbogpojaaDoorRows
import Derived.Test.YtoiibphbogpojaaDoorVmE
namespace Go.Proofs.YtoiibphbogpojaaDoor
open Go Go.RowKit Go.Proofs.YtoiibphbogpojaaDoor.Cod
set_option linter.unusedVariables false
set_option linter.unusedSimpArgs false
namespace Vm
/-- What a run came to, without a call. -/
def outA (kind f : Int) : Array Value := #[.int .u8 kind, .int .u8 0, .int .i64 0, .int .i64 0, .int .i64 0, .int .i64 0, .int .i64 0, .int .i64 0, .int .u8 0, .slice none 0 0, .int .i64 0, .int .i64 0, .int .u8 f]
section
variable {W w0 w : World} {B r : Nat} {R : Rk} {A : Option Addr} {c : Nat} {xs : List Int}
set_option maxRecDepth 100000 in
set_option maxHeartbeats 4000000 in
theorem out_done (s : RSt W w0 w B r R A c xs) (h : R.is_ = .int .u8 3) :
    Calls Tryd.prog 17 #[.pointer (some ⟨r, 0, none⟩)] w fun e w' => e = .returned (.agg (outA 2 0)) ∧ Below w.heap.size w w' := by
  have y7 : w.cell? ⟨r, 7, none⟩ = some (.int .u8 3) := by rw [s.bk.cell 7, ← h]; rfl
  have hrl := s.bk.lt
  have KB := Blk.new w 35 #[.int .u8 2, .int .u8 0, .int .i64 0, .int .i64 0, .int .i64 0, .int .i64 0, .int .i64 0, .int .i64 0, .int .u8 0, .slice none 0 0, .int .i64 0, .int .i64 0, .int .u8 0]
  have u0 := KB.cell 0
  have u1 := KB.cell 1
  have u2 := KB.cell 2
  have u3 := KB.cell 3
  have u4 := KB.cell 4
  have u5 := KB.cell 5
  have u6 := KB.cell 6
  have u7 := KB.cell 7
  have u8 := KB.cell 8
  have u9 := KB.cell 9
  have u10 := KB.cell 10
  have u11 := KB.cell 11
  have u12 := KB.cell 12
  clear s h KB
  unfold outA
  go_enter Tryd.func17, Tryd.ntmps17
  go_wp2_with fail
  exact bodyPost_ret (v := .agg #[.int .u8 2, .int .u8 0, .int .i64 0, .int .i64 0, .int .i64 0, .int .i64 0, .int .i64 0, .int .i64 0, .int .u8 0, .slice none 0 0, .int .i64 0, .int .i64 0, .int .u8 0]) (by simp [results, Tryd.results17, go_sem, u0, u1, u2, u3, u4, u5, u6, u7, u8, u9, u10, u11, u12]) rfl ⟨rfl, (Below.refl _ _).alloc (Nat.le_refl _) _⟩
set_option maxRecDepth 100000 in
set_option maxHeartbeats 4000000 in
theorem out_fault (f : Int) (s : RSt W w0 w B r R A c xs) (h : R.is_ = .int .u8 5) (hf : R.ft = .int .u8 f) :
    Calls Tryd.prog 17 #[.pointer (some ⟨r, 0, none⟩)] w fun e w' => e = .returned (.agg (outA 4 f)) ∧ Below w.heap.size w w' := by
  have y7 : w.cell? ⟨r, 7, none⟩ = some (.int .u8 5) := by rw [s.bk.cell 7, ← h]; rfl
  have y8 : w.cell? ⟨r, 8, none⟩ = some (.int .u8 f) := by rw [s.bk.cell 8, ← hf]; rfl
  have yz : ∀ o, (w.alloc o).cell? ⟨r, 7, none⟩ = some (.int .u8 5) ∧ (w.alloc o).cell? ⟨r, 8, none⟩ = some (.int .u8 f) := fun o => by
    have s1 := s.below ((Below.refl w.heap.size w).alloc (Nat.le_refl _) o)
    exact ⟨by rw [s1.bk.cell 7, ← h]; rfl, by rw [s1.bk.cell 8, ← hf]; rfl⟩
  have hrl := s.bk.lt
  have KB := Blk.new w 35 #[.int .u8 4, .int .u8 0, .int .i64 0, .int .i64 0, .int .i64 0, .int .i64 0, .int .i64 0, .int .i64 0, .int .u8 0, .slice none 0 0, .int .i64 0, .int .i64 0, .int .u8 f]
  have u0 := KB.cell 0
  have u1 := KB.cell 1
  have u2 := KB.cell 2
  have u3 := KB.cell 3
  have u4 := KB.cell 4
  have u5 := KB.cell 5
  have u6 := KB.cell 6
  have u7 := KB.cell 7
  have u8 := KB.cell 8
  have u9 := KB.cell 9
  have u10 := KB.cell 10
  have u11 := KB.cell 11
  have u12 := KB.cell 12
  clear s h KB
  unfold outA
  go_enter Tryd.func17, Tryd.ntmps17
  go_wp2_with fail
  exact bodyPost_ret (v := .agg #[.int .u8 4, .int .u8 0, .int .i64 0, .int .i64 0, .int .i64 0, .int .i64 0, .int .i64 0, .int .i64 0, .int .u8 0, .slice none 0 0, .int .i64 0, .int .i64 0, .int .u8 f]) (by simp [results, Tryd.results17, go_sem, u0, u1, u2, u3, u4, u5, u6, u7, u8, u9, u10, u11, u12]) rfl ⟨rfl, (Below.refl _ _).alloc (Nat.le_refl _) _⟩
end
end Vm
end Go.Proofs.YtoiibphbogpojaaDoor
