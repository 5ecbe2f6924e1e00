/- The program's Copy of a code without arrays. -/
import Derived.Test.YtoiibphbogpojaaDoorRows
import Derived.Test.YtoiibphbogpojaaDoorVmG
import Derived.Test.YtoiibphbogpojaaDoorCodF
import Derived.Laws.Cover3
namespace Go.Proofs.YtoiibphbogpojaaDoor
open Go Go.RowKit Go.Lib Go.Proofs.YtoiibphbogpojaaDoor.Cod
set_option linter.unusedVariables false
set_option linter.unusedSimpArgs false
namespace Vm
/-- copy of elements of any size: all is read before anything is written. -/
theorem run_copy_rows {P : Program} (w : World) (dT sT ty elem : TypeId) (b o dLen dCap : Nat) (a : Addr) (sLen sCap s n : Nat) (cs : List Value)
    (hu : P.underlying dT = some (.slice elem)) (hs : (P.info? elem).map (·.size) = some s) (hm : Nat.min sLen dLen = n) (hn : cs.length = n * s)
    (hsrc : ∀ j v, cs[j]? = some v → w.cell? (a.add j) = some v) (hc : ∀ j, j < cs.length → (w.cell? ⟨b, o + j, none⟩).isSome = true) (hf : ∀ j, j < cs.length → w.frozen? ⟨b, o + j, none⟩ = false) (h1 : ∀ v ∈ cs, v.oneCell' = true) :
    (Builtin.copy_ #[dT, sT] ty #[.slice (some ⟨b, o, none⟩) dLen dCap, .slice (some a) sLen sCap]).run P w = .ok (goInt n) (w.setCells b o cs) := by
  have hl := run_loadCells_list (P := P) w a cs hsrc
  have hst := run_storeCells_cells (P := P) b o cs 0 w (by simpa using hc) (by simpa using hf) h1
  cases hq : P.info? elem with
  | none => simp [hq] at hs
  | some i =>
    have hi : i.size = s := by simpa [hq] using hs
    rw [hn] at hl
    simp [Builtin.copy_, run_underlying hu, Builtin.lenOf, Builtin.firstCells, sizeOf, typeInfo, hq, hi, hm, hl, hst]
theorem vm_instr_info : (Tryd.prog.info? 23).map (fun i => (i.zero, i.size, i.bytes)) = some (some (.agg #[.int .u8 0, .int .i64 0]), 2, 16) := by kernel_rfl
def insZ (n : Nat) : Array Value := madeCells (Value.agg #[.int .u8 0, .int .i64 0]).cells (n * 2)
theorem insZ_size (n : Nat) : (insZ n).size = n * 2 := by unfold insZ; rw [size_madeCells]
theorem mkIns (n : Nat) (hn : n ≤ 1000000) (W : World) : (Instr.makeSlice 24 (.int .i64 n) (.int .i64 n)).run Tryd.prog W = .ok (.slice (some ⟨W.heap.size, 0, none⟩) n n) (W.alloc (.cells (insZ n) 23)) := by
  obtain ⟨i0, hi0, hz0, hz1, hz2⟩ := info_parts vm_instr_info
  have h := run_make_rowN (P := Tryd.prog) 24 23 i0 (.agg #[.int .u8 0, .int .i64 0]) Tryd.underlying24 hi0 hz0 .i64 .i64 n n (Nat.le_refl _) (by rw [hz2]; omega) (by omega) W
  rw [hz1] at h
  exact h
set_option maxRecDepth 100000 in
set_option maxHeartbeats 4000000 in
theorem CopyP_c (g n cc : Nat) (vars : Int) (vals : List Value) (w : World) (hn : n ≤ 1000) (h0 : 0 < n) (hl : vals.length = n * 2) (h1 : ∀ v ∈ vals, v.oneCell' = true)
    (hg : g < w.heap.size) (hc : ∀ (j : Nat) (v : Value), vals[j]? = some v → w.cell? ⟨g, j, none⟩ = some v) :
    Calls Tryd.prog 13 #[.agg #[.slice (some ⟨g, 0, none⟩) n cc, .int .i64 vars, .slice none 0 0]] w fun e w' => ∃ (h : Nat) (cur : Array Value), e = .returned (.agg #[.slice (some ⟨h, 0, none⟩) n n, .int .i64 vars, .slice none 0 0]) ∧ w.heap.size ≤ h ∧ Blk w' h 23 cur ∧ (∀ (j : Nat) (v : Value), vals[j]? = some v → cur[j]? = some v) ∧ Below w.heap.size w w' := by
  have q1 := fun (w : World) => Go.run_neq_slice_nil (P := Tryd.prog) w 24 23 (some ⟨g, 0, none⟩) n cc Tryd.underlying24
  have q2 := fun (w : World) => Go.run_neq_slice_nil (P := Tryd.prog) w 25 3 none 0 0 Tryd.underlying25
  simp only [Option.isNone_some, Option.isNone_none, Bool.not_false, Bool.not_true] at q1 q2
  have MK := fun W => mkIns n (by omega) W
  have HC := hide hc
  have HL := hide hl
  have HO := hide h1
  have a1 := Blk.new w 27 #[.slice (some ⟨g, 0, none⟩) n cc, .int .i64 vars, .slice none 0 0]
  have b1 : Below w.heap.size w (w.alloc (.cells #[.slice (some ⟨g, 0, none⟩) n cc, .int .i64 vars, .slice none 0 0] 27)) := (Below.refl _ _).alloc (Nat.le_refl _) _
  have hs1 : (w.alloc (.cells #[.slice (some ⟨g, 0, none⟩) n cc, .int .i64 vars, .slice none 0 0] 27)).heap.size = w.heap.size + 1 := by simp
  obtain ⟨w1, hw1⟩ : ∃ y, w.alloc (.cells #[.slice (some ⟨g, 0, none⟩) n cc, .int .i64 vars, .slice none 0 0] 27) = y := ⟨_, rfl⟩
  rw [hw1] at a1 b1 hs1
  have a2 := Blk.new w1 27 #[.slice none 0 0, .int .i64 0, .slice none 0 0]
  have b2 : Below w1.heap.size w1 (w1.alloc (.cells #[.slice none 0 0, .int .i64 0, .slice none 0 0] 27)) := (Below.refl _ _).alloc (Nat.le_refl _) _
  have hs2 : (w1.alloc (.cells #[.slice none 0 0, .int .i64 0, .slice none 0 0] 27)).heap.size = w.heap.size + 1 + 1 := by simp [hs1]
  obtain ⟨w2, hw2⟩ : ∃ y, w1.alloc (.cells #[.slice none 0 0, .int .i64 0, .slice none 0 0] 27) = y := ⟨_, rfl⟩
  rw [hw2] at a2 b2 hs2
  have a3 := Blk.new w2 23 (insZ n)
  have b3 : Below w2.heap.size w2 (w2.alloc (.cells (insZ n) 23)) := (Below.refl _ _).alloc (Nat.le_refl _) _
  obtain ⟨w3, hw3⟩ : ∃ y, w2.alloc (.cells (insZ n) 23) = y := ⟨_, rfl⟩
  rw [hw3] at a3 b3
  rw [hs2] at a3 b3
  rw [hs1] at a2 b2
  have s2 : w2.heap.size = w.heap.size + 1 + 1 := hs2
  have k0 : Blk w3 w.heap.size 27 #[.slice (some ⟨g, 0, none⟩) n cc, .int .i64 vars, .slice none 0 0] := (a1.below b2 (by omega)).below b3 (by omega)
  have k1 : Blk w3 (w.heap.size + 1) 27 #[.slice none 0 0, .int .i64 0, .slice none 0 0] := a2.below b3 (by omega)
  have bb : Below w.heap.size w w3 := (b1.trans (b2.mono (by omega))).trans (b3.mono (by omega))
  have hmin : Nat.min n n = n := Nat.min_self n
  have RUN : ∀ ty, (Builtin.copy_ #[24, 24] ty #[.slice (some ⟨w.heap.size + 1 + 1, 0, none⟩) n n, .slice (some ⟨g, 0, none⟩) n cc]).run Tryd.prog w3 = .ok (goInt n) (w3.setCells (w.heap.size + 1 + 1) 0 vals) := fun ty => by
    refine run_copy_rows w3 _ _ ty 23 (w.heap.size + 1 + 1) 0 n n ⟨g, 0, none⟩ n cc 2 n vals Tryd.underlying24 (by kernel_rfl) hmin hl (fun j v hv => ?_) (fun j hj => ?_) (fun j hj => a3.frozen _) h1
    · rw [show (⟨g, 0, none⟩ : Addr).add j = ⟨g, j, none⟩ by unfold Addr.add; split <;> simp_all]
      exact (World.cell?_of_block (w := w) (a := ⟨g, j, none⟩) (bb.block g hg)).trans (hc j v hv)
    · rw [a3.cell, Nat.zero_add, Array.getElem?_eq_getElem (by rw [insZ_size]; omega)]
      rfl
  have m0 : Blk (w3.setCells (w.heap.size + 1 + 1) 0 vals) w.heap.size 27 #[.slice (some ⟨g, 0, none⟩) n cc, .int .i64 vars, .slice none 0 0] := hbL_far k0 (by omega) vals 0
  have m1 : Blk (w3.setCells (w.heap.size + 1 + 1) 0 vals) (w.heap.size + 1) 27 #[.slice none 0 0, .int .i64 0, .slice none 0 0] := hbL_far k1 (by omega) vals 0
  have m2 := setAll_blk vals 0 a3
  have mb : Below w.heap.size w (w3.setCells (w.heap.size + 1 + 1) 0 vals) := Cod.below_setCells (by omega) vals 0 bb
  obtain ⟨w4, hw4⟩ : ∃ y, w3.setCells (w.heap.size + 1 + 1) 0 vals = y := ⟨_, rfl⟩
  rw [hw4] at m0 m1 m2 mb RUN
  have hcur : ∀ (j : Nat) (v : Value), vals[j]? = some v → (setAll (insZ n) 0 vals)[j]? = some v := fun j v hv => by
    have hj : j < vals.length := (List.getElem?_eq_some_iff.1 hv).1
    rw [setAll_get _ _ _ _ (by rw [insZ_size]; omega), if_pos ⟨Nat.zero_le _, by omega⟩, Nat.sub_zero]
    exact hv
  have c40 := m0.cell 0
  have f40 := m0.frozen 0
  have n0 := m0.set_ 0 (.slice (some ⟨w.heap.size + 1 + 1, 0, none⟩) n n)
  have n1 := m1.far (p := ⟨w.heap.size, 0, none⟩) (by simp) (.slice (some ⟨w.heap.size + 1 + 1, 0, none⟩) n n)
  have n2 := m2.far (p := ⟨w.heap.size, 0, none⟩) (by simp; omega) (.slice (some ⟨w.heap.size + 1 + 1, 0, none⟩) n n)
  have c50 := n0.cell 0
  have c51 := n0.cell 1
  have c52 := n0.cell 2
  have d50 := n1.cell 0
  have e50 := n1.frozen 0
  have o1 := n1.set_ 0 (.slice (some ⟨w.heap.size + 1 + 1, 0, none⟩) n n)
  have o2 := n2.far (p := ⟨w.heap.size + 1, 0, none⟩) (by simp) (.slice (some ⟨w.heap.size + 1 + 1, 0, none⟩) n n)
  have d61 := o1.cell 1
  have e61 := o1.frozen 1
  have p1 := o1.set_ 1 (.int .i64 vars)
  have p2 := o2.far (p := ⟨w.heap.size + 1, 1, none⟩) (by simp) (.int .i64 vars)
  have d72 := p1.cell 2
  have e72 := p1.frozen 2
  have r1 := p1.set_ 2 (.slice none 0 0)
  have r2 := p2.far (p := ⟨w.heap.size + 1, 2, none⟩) (by simp) (.slice none 0 0)
  have u0 := r1.cell 0
  have u1 := r1.cell 1
  have u2 := r1.cell 2
  have R2 := hide (And.intro r2 hcur)
  have RB := hide ((((mb.setCell (p := ⟨w.heap.size, 0, none⟩) (Nat.le_refl _) (.slice (some ⟨w.heap.size + 1 + 1, 0, none⟩) n n)).setCell (p := ⟨w.heap.size + 1, 0, none⟩) (Nat.le_succ _) (.slice (some ⟨w.heap.size + 1 + 1, 0, none⟩) n n)).setCell (p := ⟨w.heap.size + 1, 1, none⟩) (Nat.le_succ _) (.int .i64 vars)).setCell (p := ⟨w.heap.size + 1, 2, none⟩) (Nat.le_succ _) (.slice none 0 0))
  have E3 : ((w.alloc (.cells #[.slice (some ⟨g, 0, none⟩) n cc, .int .i64 vars, .slice none 0 0] 27)).alloc (.cells #[.slice none 0 0, .int .i64 0, .slice none 0 0] 27)).alloc (.cells (insZ n) 23) = w3 := by rw [hw1, hw2, hw3]
  have E3' := hide E3
  clear hc hl h1 a1 b1 hs1 hw1 a2 b2 hs2 hw2 a3 b3 hw3 s2 k0 k1 bb hmin m0 m1 m2 mb hw4 hcur n0 n1 n2 o1 o2 p1 p2 r1 r2 HC HL HO E3
  go_enter Tryd.func13, Tryd.ntmps13
  go_wp2_with fail
  rw [E3'.out, RUN]
  go_simp
  go_wp2_with fail
  exact bodyPost_ret (v := .agg #[.slice (some ⟨w.heap.size + 1 + 1, 0, none⟩) n n, .int .i64 vars, .slice none 0 0]) (by simp [results, Tryd.results13, go_sem, u0, u1, u2]) rfl ⟨_, _, rfl, by omega, R2.out.1, R2.out.2, RB.out⟩
end Vm
end Go.Proofs.YtoiibphbogpojaaDoor
