/- A call, trim, by the document: kinds without requests. -/
import Derived.Test.YthcoelkpiflfeaaDoorRows
import Derived.Test.YthcoelkpiflfeaaDoorCalB
import Derived.Test.YthcoelkpiflfeaaDoorCalD
namespace Go.Proofs.YthcoelkpiflfeaaDoor
open Go Go.RowKit Go.Lib
set_option linter.unusedVariables false
set_option linter.unusedSimpArgs false
namespace Cal
theorem has_yes {k : Int} {s : Array UInt8} (hS : usesS k = s) (c : UInt8) (z : Int) (hz : (c.toNat : Int) = z) {b : Bool} (hb : decide (c ∈ s.toList) = b) (w : World) : Calls Tryd.prog 27 #[.int .u8 k, .int .u8 z] w fun e w' => e = .returned (.bool b) ∧ w' = w := by
  have h := has_b k c w
  rw [hS, hb, hz] at h
  exact h
set_option maxRecDepth 100000 in
set_option maxHeartbeats 8000000 in
theorem trimB_none (k co pe tg va sz ro op cl ky : Int) (ra : Option Addr) (rn rc : Nat) (w : World) (hS : usesS k = #[]) :
    Calls Tryd.prog 26 #[.agg #[.int .u8 k, .int .i64 co, .int .i64 pe, .int .i64 tg, .int .i64 va, .int .i64 sz, .int .i64 ro, .int .u8 op, .slice ra rn rc, .int .i64 cl, .int .i64 ky]] w fun e w' => e = .returned (.agg #[.int .u8 0, .int .i64 0, .int .i64 0, .int .i64 0, .int .i64 0, .int .i64 0, .int .i64 0, .int .u8 0, .slice none 0 0, .int .i64 0, .int .i64 0]) ∧ Below w.heap.size w w' := by
  have US := hide (fun (w1 : World) => uses_b k w1)
  rw [hS] at US
  have eS : ((⟨#[]⟩ : ByteArray) == (⟨#[]⟩ : ByteArray)) = true := by rfl
  have HB := hide ((((Below.refl w.heap.size w).alloc (Nat.le_refl _) (.cells #[.int .u8 k, .int .i64 co, .int .i64 pe, .int .i64 tg, .int .i64 va, .int .i64 sz, .int .i64 ro, .int .u8 op, .slice ra rn rc, .int .i64 cl, .int .i64 ky] 24)).alloc (by simp) (.cells #[.int .u8 0, .int .i64 0, .int .i64 0, .int .i64 0, .int .i64 0, .int .i64 0, .int .i64 0, .int .u8 0, .slice none 0 0, .int .i64 0, .int .i64 0] 24)).alloc (by simp; omega) (.cells #[.int .u8 0, .int .i64 0, .int .i64 0, .int .i64 0, .int .i64 0, .int .i64 0, .int .i64 0, .int .u8 0, .slice none 0 0, .int .i64 0, .int .i64 0] 24))
  have k2 := Blk.new (w.alloc (.cells #[.int .u8 k, .int .i64 co, .int .i64 pe, .int .i64 tg, .int .i64 va, .int .i64 sz, .int .i64 ro, .int .u8 op, .slice ra rn rc, .int .i64 cl, .int .i64 ky] 24)) 24 #[.int .u8 0, .int .i64 0, .int .i64 0, .int .i64 0, .int .i64 0, .int .i64 0, .int .i64 0, .int .u8 0, .slice none 0 0, .int .i64 0, .int .i64 0]
  have k2b := k2.below ((Below.refl _ _).alloc (Nat.le_refl _) (.cells #[.int .u8 0, .int .i64 0, .int .i64 0, .int .i64 0, .int .i64 0, .int .i64 0, .int .i64 0, .int .u8 0, .slice none 0 0, .int .i64 0, .int .i64 0] 24)) k2.lt
  rw [show (w.alloc (.cells #[.int .u8 k, .int .i64 co, .int .i64 pe, .int .i64 tg, .int .i64 va, .int .i64 sz, .int .i64 ro, .int .u8 op, .slice ra rn rc, .int .i64 cl, .int .i64 ky] 24)).heap.size = w.heap.size + 1 by simp] at k2b
  have u0 := k2b.cell 0
  have u1 := k2b.cell 1
  have u2 := k2b.cell 2
  have u3 := k2b.cell 3
  have u4 := k2b.cell 4
  have u5 := k2b.cell 5
  have u6 := k2b.cell 6
  have u7 := k2b.cell 7
  have u8 := k2b.cell 8
  have u9 := k2b.cell 9
  have u10 := k2b.cell 10
  clear k2 k2b hS
  go_enter Tryd.func26, Tryd.ntmps26
  go_wp2_with fail
  refine (US.out _).mono ?_
  rintro e w' ⟨rfl, rfl⟩
  go_wp2_with fail
  exact bodyPost_ret (v := .agg #[.int .u8 0, .int .i64 0, .int .i64 0, .int .i64 0, .int .i64 0, .int .i64 0, .int .i64 0, .int .u8 0, .slice none 0 0, .int .i64 0, .int .i64 0]) (by simp [results, Tryd.results26, go_sem, u0, u1, u2, u3, u4, u5, u6, u7, u8, u9, u10]) rfl ⟨rfl, HB.out⟩
set_option maxRecDepth 100000 in
set_option maxHeartbeats 8000000 in
theorem trimB_send (k co pe tg va sz ro op cl ky : Int) (ra : Option Addr) (rn rc : Nat) (w : World) (hS : usesS k = #[99, 112, 116, 118, 115]) :
    Calls Tryd.prog 26 #[.agg #[.int .u8 k, .int .i64 co, .int .i64 pe, .int .i64 tg, .int .i64 va, .int .i64 sz, .int .i64 ro, .int .u8 op, .slice ra rn rc, .int .i64 cl, .int .i64 ky]] w fun e w' => e = .returned (.agg #[.int .u8 k, .int .i64 co, .int .i64 pe, .int .i64 tg, .int .i64 va, .int .i64 sz, .int .i64 0, .int .u8 0, .slice none 0 0, .int .i64 0, .int .i64 0]) ∧ Below w.heap.size w w' := by
  have US := hide (fun (w1 : World) => uses_b k w1)
  rw [hS] at US
  have eS : ((⟨#[99, 112, 116, 118, 115]⟩ : ByteArray) == (⟨#[]⟩ : ByteArray)) = false := by rfl
  have HB := hide ((((Below.refl w.heap.size w).alloc (Nat.le_refl _) (.cells #[.int .u8 k, .int .i64 co, .int .i64 pe, .int .i64 tg, .int .i64 va, .int .i64 sz, .int .i64 ro, .int .u8 op, .slice ra rn rc, .int .i64 cl, .int .i64 ky] 24)).alloc (by simp) (.cells #[.int .u8 k, .int .i64 co, .int .i64 pe, .int .i64 tg, .int .i64 va, .int .i64 sz, .int .i64 0, .int .u8 0, .slice none 0 0, .int .i64 0, .int .i64 0] 24)).alloc (by simp; omega) (.cells #[.int .u8 k, .int .i64 co, .int .i64 pe, .int .i64 tg, .int .i64 va, .int .i64 sz, .int .i64 0, .int .u8 0, .slice none 0 0, .int .i64 0, .int .i64 0] 24))
  have k2 := Blk.new (w.alloc (.cells #[.int .u8 k, .int .i64 co, .int .i64 pe, .int .i64 tg, .int .i64 va, .int .i64 sz, .int .i64 ro, .int .u8 op, .slice ra rn rc, .int .i64 cl, .int .i64 ky] 24)) 24 #[.int .u8 k, .int .i64 co, .int .i64 pe, .int .i64 tg, .int .i64 va, .int .i64 sz, .int .i64 0, .int .u8 0, .slice none 0 0, .int .i64 0, .int .i64 0]
  have k2b := k2.below ((Below.refl _ _).alloc (Nat.le_refl _) (.cells #[.int .u8 k, .int .i64 co, .int .i64 pe, .int .i64 tg, .int .i64 va, .int .i64 sz, .int .i64 0, .int .u8 0, .slice none 0 0, .int .i64 0, .int .i64 0] 24)) k2.lt
  rw [show (w.alloc (.cells #[.int .u8 k, .int .i64 co, .int .i64 pe, .int .i64 tg, .int .i64 va, .int .i64 sz, .int .i64 ro, .int .u8 op, .slice ra rn rc, .int .i64 cl, .int .i64 ky] 24)).heap.size = w.heap.size + 1 by simp] at k2b
  have u0 := k2b.cell 0
  have u1 := k2b.cell 1
  have u2 := k2b.cell 2
  have u3 := k2b.cell 3
  have u4 := k2b.cell 4
  have u5 := k2b.cell 5
  have u6 := k2b.cell 6
  have u7 := k2b.cell 7
  have u8 := k2b.cell 8
  have u9 := k2b.cell 9
  have u10 := k2b.cell 10
  have H99 := hide (fun w1 => has_yes hS 99 99 rfl (b := true) (by decide) w1)
  have H112 := hide (fun w1 => has_yes hS 112 112 rfl (b := true) (by decide) w1)
  have H116 := hide (fun w1 => has_yes hS 116 116 rfl (b := true) (by decide) w1)
  have H118 := hide (fun w1 => has_yes hS 118 118 rfl (b := true) (by decide) w1)
  have H115 := hide (fun w1 => has_yes hS 115 115 rfl (b := true) (by decide) w1)
  have H114 := hide (fun w1 => has_yes hS 114 114 rfl (b := false) (by decide) w1)
  have H111 := hide (fun w1 => has_yes hS 111 111 rfl (b := false) (by decide) w1)
  have H108 := hide (fun w1 => has_yes hS 108 108 rfl (b := false) (by decide) w1)
  have H107 := hide (fun w1 => has_yes hS 107 107 rfl (b := false) (by decide) w1)
  clear k2 k2b hS
  go_enter Tryd.func26, Tryd.ntmps26
  go_wp2_with fail
  refine (US.out _).mono ?_
  rintro e w' ⟨rfl, rfl⟩
  go_wp2_with fail
  refine (H99.out _).mono ?_
  rintro e w' ⟨rfl, rfl⟩
  go_wp2_with fail
  refine (H112.out _).mono ?_
  rintro e w' ⟨rfl, rfl⟩
  go_wp2_with fail
  refine (H116.out _).mono ?_
  rintro e w' ⟨rfl, rfl⟩
  go_wp2_with fail
  refine (H118.out _).mono ?_
  rintro e w' ⟨rfl, rfl⟩
  go_wp2_with fail
  refine (H115.out _).mono ?_
  rintro e w' ⟨rfl, rfl⟩
  go_wp2_with fail
  refine (H114.out _).mono ?_
  rintro e w' ⟨rfl, rfl⟩
  go_wp2_with fail
  refine (H111.out _).mono ?_
  rintro e w' ⟨rfl, rfl⟩
  go_wp2_with fail
  refine (H108.out _).mono ?_
  rintro e w' ⟨rfl, rfl⟩
  go_wp2_with fail
  refine (H107.out _).mono ?_
  rintro e w' ⟨rfl, rfl⟩
  go_wp2_with fail
  exact bodyPost_ret (v := .agg #[.int .u8 k, .int .i64 co, .int .i64 pe, .int .i64 tg, .int .i64 va, .int .i64 sz, .int .i64 0, .int .u8 0, .slice none 0 0, .int .i64 0, .int .i64 0]) (by simp [results, Tryd.results26, go_sem, u0, u1, u2, u3, u4, u5, u6, u7, u8, u9, u10]) rfl ⟨rfl, HB.out⟩
set_option maxRecDepth 100000 in
set_option maxHeartbeats 8000000 in
theorem trimB_recv (k co pe tg va sz ro op cl ky : Int) (ra : Option Addr) (rn rc : Nat) (w : World) (hS : usesS k = #[99, 112, 116]) :
    Calls Tryd.prog 26 #[.agg #[.int .u8 k, .int .i64 co, .int .i64 pe, .int .i64 tg, .int .i64 va, .int .i64 sz, .int .i64 ro, .int .u8 op, .slice ra rn rc, .int .i64 cl, .int .i64 ky]] w fun e w' => e = .returned (.agg #[.int .u8 k, .int .i64 co, .int .i64 pe, .int .i64 tg, .int .i64 0, .int .i64 0, .int .i64 0, .int .u8 0, .slice none 0 0, .int .i64 0, .int .i64 0]) ∧ Below w.heap.size w w' := by
  have US := hide (fun (w1 : World) => uses_b k w1)
  rw [hS] at US
  have eS : ((⟨#[99, 112, 116]⟩ : ByteArray) == (⟨#[]⟩ : ByteArray)) = false := by rfl
  have HB := hide ((((Below.refl w.heap.size w).alloc (Nat.le_refl _) (.cells #[.int .u8 k, .int .i64 co, .int .i64 pe, .int .i64 tg, .int .i64 va, .int .i64 sz, .int .i64 ro, .int .u8 op, .slice ra rn rc, .int .i64 cl, .int .i64 ky] 24)).alloc (by simp) (.cells #[.int .u8 k, .int .i64 co, .int .i64 pe, .int .i64 tg, .int .i64 0, .int .i64 0, .int .i64 0, .int .u8 0, .slice none 0 0, .int .i64 0, .int .i64 0] 24)).alloc (by simp; omega) (.cells #[.int .u8 k, .int .i64 co, .int .i64 pe, .int .i64 tg, .int .i64 0, .int .i64 0, .int .i64 0, .int .u8 0, .slice none 0 0, .int .i64 0, .int .i64 0] 24))
  have k2 := Blk.new (w.alloc (.cells #[.int .u8 k, .int .i64 co, .int .i64 pe, .int .i64 tg, .int .i64 va, .int .i64 sz, .int .i64 ro, .int .u8 op, .slice ra rn rc, .int .i64 cl, .int .i64 ky] 24)) 24 #[.int .u8 k, .int .i64 co, .int .i64 pe, .int .i64 tg, .int .i64 0, .int .i64 0, .int .i64 0, .int .u8 0, .slice none 0 0, .int .i64 0, .int .i64 0]
  have k2b := k2.below ((Below.refl _ _).alloc (Nat.le_refl _) (.cells #[.int .u8 k, .int .i64 co, .int .i64 pe, .int .i64 tg, .int .i64 0, .int .i64 0, .int .i64 0, .int .u8 0, .slice none 0 0, .int .i64 0, .int .i64 0] 24)) k2.lt
  rw [show (w.alloc (.cells #[.int .u8 k, .int .i64 co, .int .i64 pe, .int .i64 tg, .int .i64 va, .int .i64 sz, .int .i64 ro, .int .u8 op, .slice ra rn rc, .int .i64 cl, .int .i64 ky] 24)).heap.size = w.heap.size + 1 by simp] at k2b
  have u0 := k2b.cell 0
  have u1 := k2b.cell 1
  have u2 := k2b.cell 2
  have u3 := k2b.cell 3
  have u4 := k2b.cell 4
  have u5 := k2b.cell 5
  have u6 := k2b.cell 6
  have u7 := k2b.cell 7
  have u8 := k2b.cell 8
  have u9 := k2b.cell 9
  have u10 := k2b.cell 10
  have H99 := hide (fun w1 => has_yes hS 99 99 rfl (b := true) (by decide) w1)
  have H112 := hide (fun w1 => has_yes hS 112 112 rfl (b := true) (by decide) w1)
  have H116 := hide (fun w1 => has_yes hS 116 116 rfl (b := true) (by decide) w1)
  have H118 := hide (fun w1 => has_yes hS 118 118 rfl (b := false) (by decide) w1)
  have H115 := hide (fun w1 => has_yes hS 115 115 rfl (b := false) (by decide) w1)
  have H114 := hide (fun w1 => has_yes hS 114 114 rfl (b := false) (by decide) w1)
  have H111 := hide (fun w1 => has_yes hS 111 111 rfl (b := false) (by decide) w1)
  have H108 := hide (fun w1 => has_yes hS 108 108 rfl (b := false) (by decide) w1)
  have H107 := hide (fun w1 => has_yes hS 107 107 rfl (b := false) (by decide) w1)
  clear k2 k2b hS
  go_enter Tryd.func26, Tryd.ntmps26
  go_wp2_with fail
  refine (US.out _).mono ?_
  rintro e w' ⟨rfl, rfl⟩
  go_wp2_with fail
  refine (H99.out _).mono ?_
  rintro e w' ⟨rfl, rfl⟩
  go_wp2_with fail
  refine (H112.out _).mono ?_
  rintro e w' ⟨rfl, rfl⟩
  go_wp2_with fail
  refine (H116.out _).mono ?_
  rintro e w' ⟨rfl, rfl⟩
  go_wp2_with fail
  refine (H118.out _).mono ?_
  rintro e w' ⟨rfl, rfl⟩
  go_wp2_with fail
  refine (H115.out _).mono ?_
  rintro e w' ⟨rfl, rfl⟩
  go_wp2_with fail
  refine (H114.out _).mono ?_
  rintro e w' ⟨rfl, rfl⟩
  go_wp2_with fail
  refine (H111.out _).mono ?_
  rintro e w' ⟨rfl, rfl⟩
  go_wp2_with fail
  refine (H108.out _).mono ?_
  rintro e w' ⟨rfl, rfl⟩
  go_wp2_with fail
  refine (H107.out _).mono ?_
  rintro e w' ⟨rfl, rfl⟩
  go_wp2_with fail
  exact bodyPost_ret (v := .agg #[.int .u8 k, .int .i64 co, .int .i64 pe, .int .i64 tg, .int .i64 0, .int .i64 0, .int .i64 0, .int .u8 0, .slice none 0 0, .int .i64 0, .int .i64 0]) (by simp [results, Tryd.results26, go_sem, u0, u1, u2, u3, u4, u5, u6, u7, u8, u9, u10]) rfl ⟨rfl, HB.out⟩
set_option maxRecDepth 100000 in
set_option maxHeartbeats 8000000 in
theorem trimB_comm (k co pe tg va sz ro op cl ky : Int) (ra : Option Addr) (rn rc : Nat) (w : World) (hS : usesS k = #[99]) :
    Calls Tryd.prog 26 #[.agg #[.int .u8 k, .int .i64 co, .int .i64 pe, .int .i64 tg, .int .i64 va, .int .i64 sz, .int .i64 ro, .int .u8 op, .slice ra rn rc, .int .i64 cl, .int .i64 ky]] w fun e w' => e = .returned (.agg #[.int .u8 k, .int .i64 co, .int .i64 0, .int .i64 0, .int .i64 0, .int .i64 0, .int .i64 0, .int .u8 0, .slice none 0 0, .int .i64 0, .int .i64 0]) ∧ Below w.heap.size w w' := by
  have US := hide (fun (w1 : World) => uses_b k w1)
  rw [hS] at US
  have eS : ((⟨#[99]⟩ : ByteArray) == (⟨#[]⟩ : ByteArray)) = false := by rfl
  have HB := hide ((((Below.refl w.heap.size w).alloc (Nat.le_refl _) (.cells #[.int .u8 k, .int .i64 co, .int .i64 pe, .int .i64 tg, .int .i64 va, .int .i64 sz, .int .i64 ro, .int .u8 op, .slice ra rn rc, .int .i64 cl, .int .i64 ky] 24)).alloc (by simp) (.cells #[.int .u8 k, .int .i64 co, .int .i64 0, .int .i64 0, .int .i64 0, .int .i64 0, .int .i64 0, .int .u8 0, .slice none 0 0, .int .i64 0, .int .i64 0] 24)).alloc (by simp; omega) (.cells #[.int .u8 k, .int .i64 co, .int .i64 0, .int .i64 0, .int .i64 0, .int .i64 0, .int .i64 0, .int .u8 0, .slice none 0 0, .int .i64 0, .int .i64 0] 24))
  have k2 := Blk.new (w.alloc (.cells #[.int .u8 k, .int .i64 co, .int .i64 pe, .int .i64 tg, .int .i64 va, .int .i64 sz, .int .i64 ro, .int .u8 op, .slice ra rn rc, .int .i64 cl, .int .i64 ky] 24)) 24 #[.int .u8 k, .int .i64 co, .int .i64 0, .int .i64 0, .int .i64 0, .int .i64 0, .int .i64 0, .int .u8 0, .slice none 0 0, .int .i64 0, .int .i64 0]
  have k2b := k2.below ((Below.refl _ _).alloc (Nat.le_refl _) (.cells #[.int .u8 k, .int .i64 co, .int .i64 0, .int .i64 0, .int .i64 0, .int .i64 0, .int .i64 0, .int .u8 0, .slice none 0 0, .int .i64 0, .int .i64 0] 24)) k2.lt
  rw [show (w.alloc (.cells #[.int .u8 k, .int .i64 co, .int .i64 pe, .int .i64 tg, .int .i64 va, .int .i64 sz, .int .i64 ro, .int .u8 op, .slice ra rn rc, .int .i64 cl, .int .i64 ky] 24)).heap.size = w.heap.size + 1 by simp] at k2b
  have u0 := k2b.cell 0
  have u1 := k2b.cell 1
  have u2 := k2b.cell 2
  have u3 := k2b.cell 3
  have u4 := k2b.cell 4
  have u5 := k2b.cell 5
  have u6 := k2b.cell 6
  have u7 := k2b.cell 7
  have u8 := k2b.cell 8
  have u9 := k2b.cell 9
  have u10 := k2b.cell 10
  have H99 := hide (fun w1 => has_yes hS 99 99 rfl (b := true) (by decide) w1)
  have H112 := hide (fun w1 => has_yes hS 112 112 rfl (b := false) (by decide) w1)
  have H116 := hide (fun w1 => has_yes hS 116 116 rfl (b := false) (by decide) w1)
  have H118 := hide (fun w1 => has_yes hS 118 118 rfl (b := false) (by decide) w1)
  have H115 := hide (fun w1 => has_yes hS 115 115 rfl (b := false) (by decide) w1)
  have H114 := hide (fun w1 => has_yes hS 114 114 rfl (b := false) (by decide) w1)
  have H111 := hide (fun w1 => has_yes hS 111 111 rfl (b := false) (by decide) w1)
  have H108 := hide (fun w1 => has_yes hS 108 108 rfl (b := false) (by decide) w1)
  have H107 := hide (fun w1 => has_yes hS 107 107 rfl (b := false) (by decide) w1)
  clear k2 k2b hS
  go_enter Tryd.func26, Tryd.ntmps26
  go_wp2_with fail
  refine (US.out _).mono ?_
  rintro e w' ⟨rfl, rfl⟩
  go_wp2_with fail
  refine (H99.out _).mono ?_
  rintro e w' ⟨rfl, rfl⟩
  go_wp2_with fail
  refine (H112.out _).mono ?_
  rintro e w' ⟨rfl, rfl⟩
  go_wp2_with fail
  refine (H116.out _).mono ?_
  rintro e w' ⟨rfl, rfl⟩
  go_wp2_with fail
  refine (H118.out _).mono ?_
  rintro e w' ⟨rfl, rfl⟩
  go_wp2_with fail
  refine (H115.out _).mono ?_
  rintro e w' ⟨rfl, rfl⟩
  go_wp2_with fail
  refine (H114.out _).mono ?_
  rintro e w' ⟨rfl, rfl⟩
  go_wp2_with fail
  refine (H111.out _).mono ?_
  rintro e w' ⟨rfl, rfl⟩
  go_wp2_with fail
  refine (H108.out _).mono ?_
  rintro e w' ⟨rfl, rfl⟩
  go_wp2_with fail
  refine (H107.out _).mono ?_
  rintro e w' ⟨rfl, rfl⟩
  go_wp2_with fail
  exact bodyPost_ret (v := .agg #[.int .u8 k, .int .i64 co, .int .i64 0, .int .i64 0, .int .i64 0, .int .i64 0, .int .i64 0, .int .u8 0, .slice none 0 0, .int .i64 0, .int .i64 0]) (by simp [results, Tryd.results26, go_sem, u0, u1, u2, u3, u4, u5, u6, u7, u8, u9, u10]) rfl ⟨rfl, HB.out⟩
set_option maxRecDepth 100000 in
set_option maxHeartbeats 8000000 in
theorem trimB_root (k co pe tg va sz ro op cl ky : Int) (ra : Option Addr) (rn rc : Nat) (w : World) (hS : usesS k = #[99, 114, 118]) :
    Calls Tryd.prog 26 #[.agg #[.int .u8 k, .int .i64 co, .int .i64 pe, .int .i64 tg, .int .i64 va, .int .i64 sz, .int .i64 ro, .int .u8 op, .slice ra rn rc, .int .i64 cl, .int .i64 ky]] w fun e w' => e = .returned (.agg #[.int .u8 k, .int .i64 co, .int .i64 0, .int .i64 0, .int .i64 va, .int .i64 0, .int .i64 ro, .int .u8 0, .slice none 0 0, .int .i64 0, .int .i64 0]) ∧ Below w.heap.size w w' := by
  have US := hide (fun (w1 : World) => uses_b k w1)
  rw [hS] at US
  have eS : ((⟨#[99, 114, 118]⟩ : ByteArray) == (⟨#[]⟩ : ByteArray)) = false := by rfl
  have HB := hide ((((Below.refl w.heap.size w).alloc (Nat.le_refl _) (.cells #[.int .u8 k, .int .i64 co, .int .i64 pe, .int .i64 tg, .int .i64 va, .int .i64 sz, .int .i64 ro, .int .u8 op, .slice ra rn rc, .int .i64 cl, .int .i64 ky] 24)).alloc (by simp) (.cells #[.int .u8 k, .int .i64 co, .int .i64 0, .int .i64 0, .int .i64 va, .int .i64 0, .int .i64 ro, .int .u8 0, .slice none 0 0, .int .i64 0, .int .i64 0] 24)).alloc (by simp; omega) (.cells #[.int .u8 k, .int .i64 co, .int .i64 0, .int .i64 0, .int .i64 va, .int .i64 0, .int .i64 ro, .int .u8 0, .slice none 0 0, .int .i64 0, .int .i64 0] 24))
  have k2 := Blk.new (w.alloc (.cells #[.int .u8 k, .int .i64 co, .int .i64 pe, .int .i64 tg, .int .i64 va, .int .i64 sz, .int .i64 ro, .int .u8 op, .slice ra rn rc, .int .i64 cl, .int .i64 ky] 24)) 24 #[.int .u8 k, .int .i64 co, .int .i64 0, .int .i64 0, .int .i64 va, .int .i64 0, .int .i64 ro, .int .u8 0, .slice none 0 0, .int .i64 0, .int .i64 0]
  have k2b := k2.below ((Below.refl _ _).alloc (Nat.le_refl _) (.cells #[.int .u8 k, .int .i64 co, .int .i64 0, .int .i64 0, .int .i64 va, .int .i64 0, .int .i64 ro, .int .u8 0, .slice none 0 0, .int .i64 0, .int .i64 0] 24)) k2.lt
  rw [show (w.alloc (.cells #[.int .u8 k, .int .i64 co, .int .i64 pe, .int .i64 tg, .int .i64 va, .int .i64 sz, .int .i64 ro, .int .u8 op, .slice ra rn rc, .int .i64 cl, .int .i64 ky] 24)).heap.size = w.heap.size + 1 by simp] at k2b
  have u0 := k2b.cell 0
  have u1 := k2b.cell 1
  have u2 := k2b.cell 2
  have u3 := k2b.cell 3
  have u4 := k2b.cell 4
  have u5 := k2b.cell 5
  have u6 := k2b.cell 6
  have u7 := k2b.cell 7
  have u8 := k2b.cell 8
  have u9 := k2b.cell 9
  have u10 := k2b.cell 10
  have H99 := hide (fun w1 => has_yes hS 99 99 rfl (b := true) (by decide) w1)
  have H112 := hide (fun w1 => has_yes hS 112 112 rfl (b := false) (by decide) w1)
  have H116 := hide (fun w1 => has_yes hS 116 116 rfl (b := false) (by decide) w1)
  have H118 := hide (fun w1 => has_yes hS 118 118 rfl (b := true) (by decide) w1)
  have H115 := hide (fun w1 => has_yes hS 115 115 rfl (b := false) (by decide) w1)
  have H114 := hide (fun w1 => has_yes hS 114 114 rfl (b := true) (by decide) w1)
  have H111 := hide (fun w1 => has_yes hS 111 111 rfl (b := false) (by decide) w1)
  have H108 := hide (fun w1 => has_yes hS 108 108 rfl (b := false) (by decide) w1)
  have H107 := hide (fun w1 => has_yes hS 107 107 rfl (b := false) (by decide) w1)
  clear k2 k2b hS
  go_enter Tryd.func26, Tryd.ntmps26
  go_wp2_with fail
  refine (US.out _).mono ?_
  rintro e w' ⟨rfl, rfl⟩
  go_wp2_with fail
  refine (H99.out _).mono ?_
  rintro e w' ⟨rfl, rfl⟩
  go_wp2_with fail
  refine (H112.out _).mono ?_
  rintro e w' ⟨rfl, rfl⟩
  go_wp2_with fail
  refine (H116.out _).mono ?_
  rintro e w' ⟨rfl, rfl⟩
  go_wp2_with fail
  refine (H118.out _).mono ?_
  rintro e w' ⟨rfl, rfl⟩
  go_wp2_with fail
  refine (H115.out _).mono ?_
  rintro e w' ⟨rfl, rfl⟩
  go_wp2_with fail
  refine (H114.out _).mono ?_
  rintro e w' ⟨rfl, rfl⟩
  go_wp2_with fail
  refine (H111.out _).mono ?_
  rintro e w' ⟨rfl, rfl⟩
  go_wp2_with fail
  refine (H108.out _).mono ?_
  rintro e w' ⟨rfl, rfl⟩
  go_wp2_with fail
  refine (H107.out _).mono ?_
  rintro e w' ⟨rfl, rfl⟩
  go_wp2_with fail
  exact bodyPost_ret (v := .agg #[.int .u8 k, .int .i64 co, .int .i64 0, .int .i64 0, .int .i64 va, .int .i64 0, .int .i64 ro, .int .u8 0, .slice none 0 0, .int .i64 0, .int .i64 0]) (by simp [results, Tryd.results26, go_sem, u0, u1, u2, u3, u4, u5, u6, u7, u8, u9, u10]) rfl ⟨rfl, HB.out⟩
set_option maxRecDepth 100000 in
set_option maxHeartbeats 8000000 in
theorem trimB_red (k co pe tg va sz ro op cl ky : Int) (ra : Option Addr) (rn rc : Nat) (w : World) (hS : usesS k = #[99, 114, 118, 111]) :
    Calls Tryd.prog 26 #[.agg #[.int .u8 k, .int .i64 co, .int .i64 pe, .int .i64 tg, .int .i64 va, .int .i64 sz, .int .i64 ro, .int .u8 op, .slice ra rn rc, .int .i64 cl, .int .i64 ky]] w fun e w' => e = .returned (.agg #[.int .u8 k, .int .i64 co, .int .i64 0, .int .i64 0, .int .i64 va, .int .i64 0, .int .i64 ro, .int .u8 op, .slice none 0 0, .int .i64 0, .int .i64 0]) ∧ Below w.heap.size w w' := by
  have US := hide (fun (w1 : World) => uses_b k w1)
  rw [hS] at US
  have eS : ((⟨#[99, 114, 118, 111]⟩ : ByteArray) == (⟨#[]⟩ : ByteArray)) = false := by rfl
  have HB := hide ((((Below.refl w.heap.size w).alloc (Nat.le_refl _) (.cells #[.int .u8 k, .int .i64 co, .int .i64 pe, .int .i64 tg, .int .i64 va, .int .i64 sz, .int .i64 ro, .int .u8 op, .slice ra rn rc, .int .i64 cl, .int .i64 ky] 24)).alloc (by simp) (.cells #[.int .u8 k, .int .i64 co, .int .i64 0, .int .i64 0, .int .i64 va, .int .i64 0, .int .i64 ro, .int .u8 op, .slice none 0 0, .int .i64 0, .int .i64 0] 24)).alloc (by simp; omega) (.cells #[.int .u8 k, .int .i64 co, .int .i64 0, .int .i64 0, .int .i64 va, .int .i64 0, .int .i64 ro, .int .u8 op, .slice none 0 0, .int .i64 0, .int .i64 0] 24))
  have k2 := Blk.new (w.alloc (.cells #[.int .u8 k, .int .i64 co, .int .i64 pe, .int .i64 tg, .int .i64 va, .int .i64 sz, .int .i64 ro, .int .u8 op, .slice ra rn rc, .int .i64 cl, .int .i64 ky] 24)) 24 #[.int .u8 k, .int .i64 co, .int .i64 0, .int .i64 0, .int .i64 va, .int .i64 0, .int .i64 ro, .int .u8 op, .slice none 0 0, .int .i64 0, .int .i64 0]
  have k2b := k2.below ((Below.refl _ _).alloc (Nat.le_refl _) (.cells #[.int .u8 k, .int .i64 co, .int .i64 0, .int .i64 0, .int .i64 va, .int .i64 0, .int .i64 ro, .int .u8 op, .slice none 0 0, .int .i64 0, .int .i64 0] 24)) k2.lt
  rw [show (w.alloc (.cells #[.int .u8 k, .int .i64 co, .int .i64 pe, .int .i64 tg, .int .i64 va, .int .i64 sz, .int .i64 ro, .int .u8 op, .slice ra rn rc, .int .i64 cl, .int .i64 ky] 24)).heap.size = w.heap.size + 1 by simp] at k2b
  have u0 := k2b.cell 0
  have u1 := k2b.cell 1
  have u2 := k2b.cell 2
  have u3 := k2b.cell 3
  have u4 := k2b.cell 4
  have u5 := k2b.cell 5
  have u6 := k2b.cell 6
  have u7 := k2b.cell 7
  have u8 := k2b.cell 8
  have u9 := k2b.cell 9
  have u10 := k2b.cell 10
  have H99 := hide (fun w1 => has_yes hS 99 99 rfl (b := true) (by decide) w1)
  have H112 := hide (fun w1 => has_yes hS 112 112 rfl (b := false) (by decide) w1)
  have H116 := hide (fun w1 => has_yes hS 116 116 rfl (b := false) (by decide) w1)
  have H118 := hide (fun w1 => has_yes hS 118 118 rfl (b := true) (by decide) w1)
  have H115 := hide (fun w1 => has_yes hS 115 115 rfl (b := false) (by decide) w1)
  have H114 := hide (fun w1 => has_yes hS 114 114 rfl (b := true) (by decide) w1)
  have H111 := hide (fun w1 => has_yes hS 111 111 rfl (b := true) (by decide) w1)
  have H108 := hide (fun w1 => has_yes hS 108 108 rfl (b := false) (by decide) w1)
  have H107 := hide (fun w1 => has_yes hS 107 107 rfl (b := false) (by decide) w1)
  clear k2 k2b hS
  go_enter Tryd.func26, Tryd.ntmps26
  go_wp2_with fail
  refine (US.out _).mono ?_
  rintro e w' ⟨rfl, rfl⟩
  go_wp2_with fail
  refine (H99.out _).mono ?_
  rintro e w' ⟨rfl, rfl⟩
  go_wp2_with fail
  refine (H112.out _).mono ?_
  rintro e w' ⟨rfl, rfl⟩
  go_wp2_with fail
  refine (H116.out _).mono ?_
  rintro e w' ⟨rfl, rfl⟩
  go_wp2_with fail
  refine (H118.out _).mono ?_
  rintro e w' ⟨rfl, rfl⟩
  go_wp2_with fail
  refine (H115.out _).mono ?_
  rintro e w' ⟨rfl, rfl⟩
  go_wp2_with fail
  refine (H114.out _).mono ?_
  rintro e w' ⟨rfl, rfl⟩
  go_wp2_with fail
  refine (H111.out _).mono ?_
  rintro e w' ⟨rfl, rfl⟩
  go_wp2_with fail
  refine (H108.out _).mono ?_
  rintro e w' ⟨rfl, rfl⟩
  go_wp2_with fail
  refine (H107.out _).mono ?_
  rintro e w' ⟨rfl, rfl⟩
  go_wp2_with fail
  exact bodyPost_ret (v := .agg #[.int .u8 k, .int .i64 co, .int .i64 0, .int .i64 0, .int .i64 va, .int .i64 0, .int .i64 ro, .int .u8 op, .slice none 0 0, .int .i64 0, .int .i64 0]) (by simp [results, Tryd.results26, go_sem, u0, u1, u2, u3, u4, u5, u6, u7, u8, u9, u10]) rfl ⟨rfl, HB.out⟩
set_option maxRecDepth 100000 in
set_option maxHeartbeats 8000000 in
theorem trimB_all (k co pe tg va sz ro op cl ky : Int) (ra : Option Addr) (rn rc : Nat) (w : World) (hS : usesS k = #[99, 118, 111]) :
    Calls Tryd.prog 26 #[.agg #[.int .u8 k, .int .i64 co, .int .i64 pe, .int .i64 tg, .int .i64 va, .int .i64 sz, .int .i64 ro, .int .u8 op, .slice ra rn rc, .int .i64 cl, .int .i64 ky]] w fun e w' => e = .returned (.agg #[.int .u8 k, .int .i64 co, .int .i64 0, .int .i64 0, .int .i64 va, .int .i64 0, .int .i64 0, .int .u8 op, .slice none 0 0, .int .i64 0, .int .i64 0]) ∧ Below w.heap.size w w' := by
  have US := hide (fun (w1 : World) => uses_b k w1)
  rw [hS] at US
  have eS : ((⟨#[99, 118, 111]⟩ : ByteArray) == (⟨#[]⟩ : ByteArray)) = false := by rfl
  have HB := hide ((((Below.refl w.heap.size w).alloc (Nat.le_refl _) (.cells #[.int .u8 k, .int .i64 co, .int .i64 pe, .int .i64 tg, .int .i64 va, .int .i64 sz, .int .i64 ro, .int .u8 op, .slice ra rn rc, .int .i64 cl, .int .i64 ky] 24)).alloc (by simp) (.cells #[.int .u8 k, .int .i64 co, .int .i64 0, .int .i64 0, .int .i64 va, .int .i64 0, .int .i64 0, .int .u8 op, .slice none 0 0, .int .i64 0, .int .i64 0] 24)).alloc (by simp; omega) (.cells #[.int .u8 k, .int .i64 co, .int .i64 0, .int .i64 0, .int .i64 va, .int .i64 0, .int .i64 0, .int .u8 op, .slice none 0 0, .int .i64 0, .int .i64 0] 24))
  have k2 := Blk.new (w.alloc (.cells #[.int .u8 k, .int .i64 co, .int .i64 pe, .int .i64 tg, .int .i64 va, .int .i64 sz, .int .i64 ro, .int .u8 op, .slice ra rn rc, .int .i64 cl, .int .i64 ky] 24)) 24 #[.int .u8 k, .int .i64 co, .int .i64 0, .int .i64 0, .int .i64 va, .int .i64 0, .int .i64 0, .int .u8 op, .slice none 0 0, .int .i64 0, .int .i64 0]
  have k2b := k2.below ((Below.refl _ _).alloc (Nat.le_refl _) (.cells #[.int .u8 k, .int .i64 co, .int .i64 0, .int .i64 0, .int .i64 va, .int .i64 0, .int .i64 0, .int .u8 op, .slice none 0 0, .int .i64 0, .int .i64 0] 24)) k2.lt
  rw [show (w.alloc (.cells #[.int .u8 k, .int .i64 co, .int .i64 pe, .int .i64 tg, .int .i64 va, .int .i64 sz, .int .i64 ro, .int .u8 op, .slice ra rn rc, .int .i64 cl, .int .i64 ky] 24)).heap.size = w.heap.size + 1 by simp] at k2b
  have u0 := k2b.cell 0
  have u1 := k2b.cell 1
  have u2 := k2b.cell 2
  have u3 := k2b.cell 3
  have u4 := k2b.cell 4
  have u5 := k2b.cell 5
  have u6 := k2b.cell 6
  have u7 := k2b.cell 7
  have u8 := k2b.cell 8
  have u9 := k2b.cell 9
  have u10 := k2b.cell 10
  have H99 := hide (fun w1 => has_yes hS 99 99 rfl (b := true) (by decide) w1)
  have H112 := hide (fun w1 => has_yes hS 112 112 rfl (b := false) (by decide) w1)
  have H116 := hide (fun w1 => has_yes hS 116 116 rfl (b := false) (by decide) w1)
  have H118 := hide (fun w1 => has_yes hS 118 118 rfl (b := true) (by decide) w1)
  have H115 := hide (fun w1 => has_yes hS 115 115 rfl (b := false) (by decide) w1)
  have H114 := hide (fun w1 => has_yes hS 114 114 rfl (b := false) (by decide) w1)
  have H111 := hide (fun w1 => has_yes hS 111 111 rfl (b := true) (by decide) w1)
  have H108 := hide (fun w1 => has_yes hS 108 108 rfl (b := false) (by decide) w1)
  have H107 := hide (fun w1 => has_yes hS 107 107 rfl (b := false) (by decide) w1)
  clear k2 k2b hS
  go_enter Tryd.func26, Tryd.ntmps26
  go_wp2_with fail
  refine (US.out _).mono ?_
  rintro e w' ⟨rfl, rfl⟩
  go_wp2_with fail
  refine (H99.out _).mono ?_
  rintro e w' ⟨rfl, rfl⟩
  go_wp2_with fail
  refine (H112.out _).mono ?_
  rintro e w' ⟨rfl, rfl⟩
  go_wp2_with fail
  refine (H116.out _).mono ?_
  rintro e w' ⟨rfl, rfl⟩
  go_wp2_with fail
  refine (H118.out _).mono ?_
  rintro e w' ⟨rfl, rfl⟩
  go_wp2_with fail
  refine (H115.out _).mono ?_
  rintro e w' ⟨rfl, rfl⟩
  go_wp2_with fail
  refine (H114.out _).mono ?_
  rintro e w' ⟨rfl, rfl⟩
  go_wp2_with fail
  refine (H111.out _).mono ?_
  rintro e w' ⟨rfl, rfl⟩
  go_wp2_with fail
  refine (H108.out _).mono ?_
  rintro e w' ⟨rfl, rfl⟩
  go_wp2_with fail
  refine (H107.out _).mono ?_
  rintro e w' ⟨rfl, rfl⟩
  go_wp2_with fail
  exact bodyPost_ret (v := .agg #[.int .u8 k, .int .i64 co, .int .i64 0, .int .i64 0, .int .i64 va, .int .i64 0, .int .i64 0, .int .u8 op, .slice none 0 0, .int .i64 0, .int .i64 0]) (by simp [results, Tryd.results26, go_sem, u0, u1, u2, u3, u4, u5, u6, u7, u8, u9, u10]) rfl ⟨rfl, HB.out⟩
set_option maxRecDepth 100000 in
set_option maxHeartbeats 8000000 in
theorem trimB_split (k co pe tg va sz ro op cl ky : Int) (ra : Option Addr) (rn rc : Nat) (w : World) (hS : usesS k = #[99, 107]) :
    Calls Tryd.prog 26 #[.agg #[.int .u8 k, .int .i64 co, .int .i64 pe, .int .i64 tg, .int .i64 va, .int .i64 sz, .int .i64 ro, .int .u8 op, .slice ra rn rc, .int .i64 cl, .int .i64 ky]] w fun e w' => e = .returned (.agg #[.int .u8 k, .int .i64 co, .int .i64 0, .int .i64 0, .int .i64 0, .int .i64 0, .int .i64 0, .int .u8 0, .slice none 0 0, .int .i64 cl, .int .i64 ky]) ∧ Below w.heap.size w w' := by
  have US := hide (fun (w1 : World) => uses_b k w1)
  rw [hS] at US
  have eS : ((⟨#[99, 107]⟩ : ByteArray) == (⟨#[]⟩ : ByteArray)) = false := by rfl
  have HB := hide ((((Below.refl w.heap.size w).alloc (Nat.le_refl _) (.cells #[.int .u8 k, .int .i64 co, .int .i64 pe, .int .i64 tg, .int .i64 va, .int .i64 sz, .int .i64 ro, .int .u8 op, .slice ra rn rc, .int .i64 cl, .int .i64 ky] 24)).alloc (by simp) (.cells #[.int .u8 k, .int .i64 co, .int .i64 0, .int .i64 0, .int .i64 0, .int .i64 0, .int .i64 0, .int .u8 0, .slice none 0 0, .int .i64 cl, .int .i64 ky] 24)).alloc (by simp; omega) (.cells #[.int .u8 k, .int .i64 co, .int .i64 0, .int .i64 0, .int .i64 0, .int .i64 0, .int .i64 0, .int .u8 0, .slice none 0 0, .int .i64 cl, .int .i64 ky] 24))
  have k2 := Blk.new (w.alloc (.cells #[.int .u8 k, .int .i64 co, .int .i64 pe, .int .i64 tg, .int .i64 va, .int .i64 sz, .int .i64 ro, .int .u8 op, .slice ra rn rc, .int .i64 cl, .int .i64 ky] 24)) 24 #[.int .u8 k, .int .i64 co, .int .i64 0, .int .i64 0, .int .i64 0, .int .i64 0, .int .i64 0, .int .u8 0, .slice none 0 0, .int .i64 cl, .int .i64 ky]
  have k2b := k2.below ((Below.refl _ _).alloc (Nat.le_refl _) (.cells #[.int .u8 k, .int .i64 co, .int .i64 0, .int .i64 0, .int .i64 0, .int .i64 0, .int .i64 0, .int .u8 0, .slice none 0 0, .int .i64 cl, .int .i64 ky] 24)) k2.lt
  rw [show (w.alloc (.cells #[.int .u8 k, .int .i64 co, .int .i64 pe, .int .i64 tg, .int .i64 va, .int .i64 sz, .int .i64 ro, .int .u8 op, .slice ra rn rc, .int .i64 cl, .int .i64 ky] 24)).heap.size = w.heap.size + 1 by simp] at k2b
  have u0 := k2b.cell 0
  have u1 := k2b.cell 1
  have u2 := k2b.cell 2
  have u3 := k2b.cell 3
  have u4 := k2b.cell 4
  have u5 := k2b.cell 5
  have u6 := k2b.cell 6
  have u7 := k2b.cell 7
  have u8 := k2b.cell 8
  have u9 := k2b.cell 9
  have u10 := k2b.cell 10
  have H99 := hide (fun w1 => has_yes hS 99 99 rfl (b := true) (by decide) w1)
  have H112 := hide (fun w1 => has_yes hS 112 112 rfl (b := false) (by decide) w1)
  have H116 := hide (fun w1 => has_yes hS 116 116 rfl (b := false) (by decide) w1)
  have H118 := hide (fun w1 => has_yes hS 118 118 rfl (b := false) (by decide) w1)
  have H115 := hide (fun w1 => has_yes hS 115 115 rfl (b := false) (by decide) w1)
  have H114 := hide (fun w1 => has_yes hS 114 114 rfl (b := false) (by decide) w1)
  have H111 := hide (fun w1 => has_yes hS 111 111 rfl (b := false) (by decide) w1)
  have H108 := hide (fun w1 => has_yes hS 108 108 rfl (b := false) (by decide) w1)
  have H107 := hide (fun w1 => has_yes hS 107 107 rfl (b := true) (by decide) w1)
  clear k2 k2b hS
  go_enter Tryd.func26, Tryd.ntmps26
  go_wp2_with fail
  refine (US.out _).mono ?_
  rintro e w' ⟨rfl, rfl⟩
  go_wp2_with fail
  refine (H99.out _).mono ?_
  rintro e w' ⟨rfl, rfl⟩
  go_wp2_with fail
  refine (H112.out _).mono ?_
  rintro e w' ⟨rfl, rfl⟩
  go_wp2_with fail
  refine (H116.out _).mono ?_
  rintro e w' ⟨rfl, rfl⟩
  go_wp2_with fail
  refine (H118.out _).mono ?_
  rintro e w' ⟨rfl, rfl⟩
  go_wp2_with fail
  refine (H115.out _).mono ?_
  rintro e w' ⟨rfl, rfl⟩
  go_wp2_with fail
  refine (H114.out _).mono ?_
  rintro e w' ⟨rfl, rfl⟩
  go_wp2_with fail
  refine (H111.out _).mono ?_
  rintro e w' ⟨rfl, rfl⟩
  go_wp2_with fail
  refine (H108.out _).mono ?_
  rintro e w' ⟨rfl, rfl⟩
  go_wp2_with fail
  refine (H107.out _).mono ?_
  rintro e w' ⟨rfl, rfl⟩
  go_wp2_with fail
  exact bodyPost_ret (v := .agg #[.int .u8 k, .int .i64 co, .int .i64 0, .int .i64 0, .int .i64 0, .int .i64 0, .int .i64 0, .int .u8 0, .slice none 0 0, .int .i64 cl, .int .i64 ky]) (by simp [results, Tryd.results26, go_sem, u0, u1, u2, u3, u4, u5, u6, u7, u8, u9, u10]) rfl ⟨rfl, HB.out⟩
end Cal
end Go.Proofs.YthcoelkpiflfeaaDoor
