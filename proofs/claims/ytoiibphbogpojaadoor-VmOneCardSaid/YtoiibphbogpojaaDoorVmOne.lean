/- The walk of the statement VmOne. -/
import Derived.Test.YtoiibphbogpojaaDoorRows
import Derived.Test.YtoiibphbogpojaaDoorVmQ
import Derived.Test.YtoiibphbogpojaaDoorVmO
namespace Go.Proofs.YtoiibphbogpojaaDoor.VmOneW
open Go Go.RowKit Go.Proofs.YtoiibphbogpojaaDoor Go.Proofs.YtoiibphbogpojaaDoor.Cod Go.Proofs.YtoiibphbogpojaaDoor.Vm
set_option linter.unusedVariables false
set_option linter.unusedSimpArgs false
theorem fit_of {n : Int} (h : (Lit.int .i64 n).wf = true) : I64 n := by
  simp [Lit.wf] at h
  have h1 : IntKind.i64.min = -9223372036854775808 := rfl
  have h2 : IntKind.i64.max = 9223372036854775807 := rfl
  unfold I64
  omega
theorem u8_of {n : Int} (h : (Lit.int .u8 n).wf = true) : 0 ≤ n ∧ n ≤ 255 := by
  simp [Lit.wf] at h
  have h1 : IntKind.u8.min = 0 := rfl
  have h2 : IntKind.u8.max = 255 := rfl
  omega
set_option maxRecDepth 100000 in
set_option maxHeartbeats 8000000 in
theorem walk (W : World) (HOPS : Ops W) (a0 : Int) (w0 : (Lit.int .u8 a0).wf = true) (a1 : Int) (w1 : (Lit.int .i64 a1).wf = true) (a2 : Int) (w2 : (Lit.int .i64 a2).wf = true) :
    Calls Tryd.prog 3 #[.int .u8 a0, .int .i64 a1, .int .i64 a2] W fun e w' => e = .returned (.bool true) ∧ Below W.heap.size W w' := by
  have H1 := hide (fit_of w1)
  have H2 := hide (fit_of w2)
  obtain ⟨h00, h01⟩ := u8_of w0
  clear w0 w1 w2
  obtain ⟨k, hk⟩ : ∃ k : Nat, Int.tmod a0 11 = (k : Int) := ⟨(a0 % 11).toNat, by rw [Int.tmod_eq_emod_of_nonneg h00]; omega⟩
  have hk11 : k < 11 := by
    rw [Int.tmod_eq_emod_of_nonneg h00] at hk
    omega
  have hw1 : IntKind.u8.wrap (10 + (k : Int)) = 10 + (k : Int) := by
    have : IntKind.u8.wrap (10 + (k : Int)) = (10 + (k : Int)) % 256 := rfl
    rw [this]
    omega
  have HK := hide hk11
  have b1 : Below W.heap.size W (W.alloc (.cells #[.int .u8 1, .int .i64 a1, .int .u8 1, .int .i64 a2, .int .u8 (10 + (k : Int)), .int .i64 0, .int .u8 3, .int .i64 0, .int .u8 29, .int .i64 0] 23)) := (Below.refl _ _).alloc (Nat.le_refl _) _
  have k1 := Blk.new W 23 #[.int .u8 1, .int .i64 a1, .int .u8 1, .int .i64 a2, .int .u8 (10 + (k : Int)), .int .i64 0, .int .u8 3, .int .i64 0, .int .u8 29, .int .i64 0]
  have hs1 : (W.alloc (.cells #[.int .u8 1, .int .i64 a1, .int .u8 1, .int .i64 a2, .int .u8 (10 + (k : Int)), .int .i64 0, .int .u8 3, .int .i64 0, .int .u8 29, .int .i64 0] 23)).heap.size = W.heap.size + 1 := by simp
  have b2 : Below (W.alloc (.cells #[.int .u8 1, .int .i64 a1, .int .u8 1, .int .i64 a2, .int .u8 (10 + (k : Int)), .int .i64 0, .int .u8 3, .int .i64 0, .int .u8 29, .int .i64 0] 23)).heap.size (W.alloc (.cells #[.int .u8 1, .int .i64 a1, .int .u8 1, .int .i64 a2, .int .u8 (10 + (k : Int)), .int .i64 0, .int .u8 3, .int .i64 0, .int .u8 29, .int .i64 0] 23)) ((W.alloc (.cells #[.int .u8 1, .int .i64 a1, .int .u8 1, .int .i64 a2, .int .u8 (10 + (k : Int)), .int .i64 0, .int .u8 3, .int .i64 0, .int .u8 29, .int .i64 0] 23)).alloc (.cells #[.slice (some ⟨W.heap.size, 0, none⟩) 5 5, .int .i64 1, .slice none 0 0] 27)) := (Below.refl _ _).alloc (Nat.le_refl _) _
  have k2 := k1.below b2 k1.lt
  have b3 := b1.trans (b2.mono (by rw [hs1]; exact Nat.le_succ _))
  have TW : Hid (∀ w, Calls Tryd.prog 7 #[.int .u8 (10 + (k : Int)), .int .i64 a1, .int .i64 a2] w fun e w' => e = .returned (.tuple #[.int .i64 ((twoF k a1 a2).getD 0), .int .u8 (if (twoF k a1 a2).isSome then 0 else 1)]) ∧ w' = w) := hide (fun w => two_b k hk11 a1 a2 w H1.out H2.out)
  obtain ⟨wv, hwv⟩ : ∃ y, (W.alloc (.cells #[.int .u8 1, .int .i64 a1, .int .u8 1, .int .i64 a2, .int .u8 (10 + (k : Int)), .int .i64 0, .int .u8 3, .int .i64 0, .int .u8 29, .int .i64 0] 23)).alloc (.cells #[.slice (some ⟨W.heap.size, 0, none⟩) 5 5, .int .i64 1, .slice none 0 0] 27) = y := ⟨_, rfl⟩
  rw [hwv] at k2 b3
  have hvc : ∀ (j : Nat) (v : Value), (oneVals k a1 a2)[j]? = some v → wv.cell? ⟨W.heap.size, j, none⟩ = some v := fun j v hv => by
    rw [k2.cell j, ← Array.getElem?_toList]
    exact hv
  have NEW := hide (New_c W.heap.size 5 5 1 (oneCs k a1 a2) [] wv rfl (by omega) (by omega) (by omega) (fun _ => ⟨⟨W.heap.size, 0, none⟩, rfl, k2.lt, fun i hi => by
      have e : (⟨W.heap.size, 0, none⟩ : Addr).add (i * 2) = ⟨W.heap.size, i * 2, none⟩ := by unfold Addr.add; split <;> simp_all
      rw [e]
      have u1 := H1.out
      have u2 := H2.out
      unfold I64 at u1 u2
      have hi5 : i < 5 := hi
      match i, hi5 with
      | 0, _ => exact ⟨⟨by show (0 : Int) ≤ 1; decide, by show (1 : Int) ≤ 255; decide, u1.1, u1.2⟩, hvc 0 _ rfl, hvc 1 _ rfl⟩
      | 1, _ => exact ⟨⟨by show (0 : Int) ≤ 1; decide, by show (1 : Int) ≤ 255; decide, u2.1, u2.2⟩, hvc 2 _ rfl, hvc 3 _ rfl⟩
      | 2, _ => exact ⟨⟨by show 0 ≤ 10 + (k : Int); omega, by show 10 + (k : Int) ≤ 255; omega, by show (-9223372036854775808 : Int) ≤ 0; decide, by show (0 : Int) ≤ 9223372036854775807; decide⟩, hvc 4 _ rfl, hvc 5 _ rfl⟩
      | 3, _ => exact ⟨⟨by show (0 : Int) ≤ 3; decide, by show (3 : Int) ≤ 255; decide, by show (-9223372036854775808 : Int) ≤ 0; decide, by show (0 : Int) ≤ 9223372036854775807; decide⟩, hvc 6 _ rfl, hvc 7 _ rfl⟩
      | 4, _ => exact ⟨⟨by show (0 : Int) ≤ 29; decide, by show (29 : Int) ≤ 255; decide, by show (-9223372036854775808 : Int) ≤ 0; decide, by show (0 : Int) ≤ 9223372036854775807; decide⟩, hvc 8 _ rfl, hvc 9 _ rfl⟩⟩) (HOPS.below b3 (Nat.le_refl _))
    (oneVals k a1 a2) rfl (by intro v hv; simp only [oneVals, List.mem_cons, List.not_mem_nil, or_false] at hv; rcases hv with rfl | rfl | rfl | rfl | rfl | rfl | rfl | rfl | rfl | rfl <;> rfl) k2.lt hvc (fun r hr => by rw [hr.det (one_may a1 a2 k hk11)]; rfl))
  have B3 := hide b3
  have HWV := hide hwv
  clear hwv b1 k1 hs1 b2 k2 b3 hvc HOPS hk11 h00 h01
  go_enter Tryd.func3, Tryd.ntmps3
  go_wp2_with fail
  rw [HWV.out]
  refine NEW.out.mono ?_
  rintro e w5 ⟨r, h, sb, vb, cur, ce, rfl, hr, hh, hsb, hv, hWr, hWv, hb5⟩
  have RUN := hide (run_one (W := W) (wn := w5) k a1 a2 cur HK.out H1.out H2.out hr hh.1 hh.2 hsb hv (Nat.le_trans B3.out.size hWr) (Nat.le_trans B3.out.size hWv) (B3.out.trans (hb5.mono B3.out.size)))
  clear hr hh hsb hv hWr hWv hb5 NEW B3
  go_wp2_with fail
  refine RUN.out.mono ?_
  rintro e w6 ⟨he, h4, h11, hb6⟩
  cases h2 : twoF k a1 a2 with
  | some v =>
    rw [h2] at he
    have he : e = .returned (.tuple #[.agg (outA 2 0), .int .i64 (5 : Nat)]) ∧ w6.cell? ⟨vb, 0, none⟩ = some (.int .i64 v) := he
    obtain ⟨rfl, hz⟩ := he
    have TW2 := TW
    rw [h2] at TW2
    simp only [Option.getD_some, Option.isSome_some, if_true] at TW2
    have bz : Below w6.heap.size w6 (w6.alloc (.cells #[.int .u8 2, .int .u8 0, .int .i64 0, .int .i64 0, .int .i64 0, .int .i64 0, .int .i64 0, .int .i64 0, .int .u8 0, .slice none 0 0, .int .i64 0, .int .i64 0, .int .u8 0] 35)) := (Below.refl _ _).alloc (Nat.le_refl _) _
    have l4 := block_lt_of_cell h4
    have lz := block_lt_of_cell hz
    have H4 := hide ((bz.cell (p := ⟨r, 4, none⟩) l4).trans h4)
    have H11 := hide ((bz.cell (p := ⟨r, 11, none⟩) l4).trans h11)
    have HZ := hide ((bz.cell (p := ⟨vb, 0, none⟩) lz).trans hz)
    have HB := hide (hb6.trans (bz.mono hb6.size))
    have kb := Blk.new w6 35 #[.int .u8 2, .int .u8 0, .int .i64 0, .int .i64 0, .int .i64 0, .int .i64 0, .int .i64 0, .int .i64 0, .int .u8 0, .slice none 0 0, .int .i64 0, .int .i64 0, .int .u8 0]
    have c0 := kb.cell 0
    have c12 := kb.cell 12
    obtain ⟨w7, hw7⟩ : ∃ y, w6.alloc (.cells #[.int .u8 2, .int .u8 0, .int .i64 0, .int .i64 0, .int .i64 0, .int .i64 0, .int .i64 0, .int .i64 0, .int .u8 0, .slice none 0 0, .int .i64 0, .int .i64 0, .int .u8 0] 35) = y := ⟨_, rfl⟩
    rw [hw7] at H4 H11 HZ HB c0 c12
    have HW7 := hide hw7
    clear hw7
    unfold outA
    clear h4 h11 hb6 hz bz l4 lz kb h2 TW
    go_wp2_with fail
    rw [HW7.out]
    refine (TW2.out _).mono ?_
    rintro e w8 ⟨rfl, rfl⟩
    go_wp2_with fail
    refine (Var_yes ⟨sb, 0, none⟩ H4.out 0 1 1 vb v H11.out (by omega) HZ.out).mono ?_
    rintro e w9 ⟨rfl, rfl⟩
    go_wp2_with fail
    refine (Var_no ⟨sb, 0, none⟩ H4.out 1 1 1 vb H11.out (by omega)).mono ?_
    rintro e w10 ⟨rfl, rfl⟩
    go_wp2_with fail
    go_ret
    exact ⟨rfl, HB.out⟩
  | none =>
    rw [h2] at he
    have he : e = .returned (.tuple #[.agg (outA 4 1), .int .i64 (3 : Nat)]) ∧ w6.cell? ⟨vb, 0, none⟩ = some (.int .i64 0) := he
    obtain ⟨rfl, hz⟩ := he
    have TW2 := TW
    rw [h2] at TW2
    simp only [Option.getD_none, Option.isSome_none, Bool.false_eq_true, if_false] at TW2
    have bz : Below w6.heap.size w6 (w6.alloc (.cells #[.int .u8 4, .int .u8 0, .int .i64 0, .int .i64 0, .int .i64 0, .int .i64 0, .int .i64 0, .int .i64 0, .int .u8 0, .slice none 0 0, .int .i64 0, .int .i64 0, .int .u8 1] 35)) := (Below.refl _ _).alloc (Nat.le_refl _) _
    have l4 := block_lt_of_cell h4
    have lz := block_lt_of_cell hz
    have H4 := hide ((bz.cell (p := ⟨r, 4, none⟩) l4).trans h4)
    have H11 := hide ((bz.cell (p := ⟨r, 11, none⟩) l4).trans h11)
    have HZ := hide ((bz.cell (p := ⟨vb, 0, none⟩) lz).trans hz)
    have HB := hide (hb6.trans (bz.mono hb6.size))
    have kb := Blk.new w6 35 #[.int .u8 4, .int .u8 0, .int .i64 0, .int .i64 0, .int .i64 0, .int .i64 0, .int .i64 0, .int .i64 0, .int .u8 0, .slice none 0 0, .int .i64 0, .int .i64 0, .int .u8 1]
    have c0 := kb.cell 0
    have c12 := kb.cell 12
    obtain ⟨w7, hw7⟩ : ∃ y, w6.alloc (.cells #[.int .u8 4, .int .u8 0, .int .i64 0, .int .i64 0, .int .i64 0, .int .i64 0, .int .i64 0, .int .i64 0, .int .u8 0, .slice none 0 0, .int .i64 0, .int .i64 0, .int .u8 1] 35) = y := ⟨_, rfl⟩
    rw [hw7] at H4 H11 HZ HB c0 c12
    have HW7 := hide hw7
    clear hw7
    unfold outA
    clear h4 h11 hb6 hz bz l4 lz kb h2 TW
    go_wp2_with fail
    rw [HW7.out]
    refine (TW2.out _).mono ?_
    rintro e w8 ⟨rfl, rfl⟩
    go_wp2_with fail
    refine (Var_yes ⟨sb, 0, none⟩ H4.out 0 1 1 vb 0 H11.out (by omega) HZ.out).mono ?_
    rintro e w9 ⟨rfl, rfl⟩
    go_wp2_with fail
    go_ret
    exact ⟨rfl, HB.out⟩
end Go.Proofs.YtoiibphbogpojaaDoor.VmOneW
