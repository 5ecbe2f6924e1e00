/- A pick's text: the reference's. -/
import Derived.Test.YtaakndenkfkijaaDoorRows
import Derived.Deep.RegionWith
import Derived.Test.YtaakndenkfkijaaDoorQuietBelow
import Derived.Test.YtaakndenkfkijaaDoorWitN
import Derived.Test.YtaakndenkfkijaaDoorWitR
namespace Go.Proofs.YtaakndenkfkijaaDoor
open Go.RowKit
open Go.Lib (itoa itoa_length_le)
set_option linter.unusedVariables false
set_option linter.unusedSimpArgs false
namespace Wit
def pkC (t : Pk) : Array Value := #[.int .u8 t.k, .int .i64 t.r, .int .i64 t.c, .int .i64 t.f, .int .i64 t.s, .int .i64 t.v]
/-- What is told of a pick. -/
def oneT (p : Pk) : List UInt8 := (ptT p).getD []
theorem oneT1 {p : Pk} (h : p.k = 1) : (p.c = 0 ∧ p.f = 0 ∧ p.s = 0 ∧ p.v = 0 → oneT p = [103] ++ (46 :: itoa p.r)) ∧ (¬ (p.c = 0 ∧ p.f = 0 ∧ p.s = 0 ∧ p.v = 0) → oneT p = []) := by
  unfold oneT ptT
  rw [if_pos h]
  exact ⟨fun h => by rw [if_pos h]; simp [dots], fun h => by rw [if_neg h]; rfl⟩
theorem oneT2 {p : Pk} (h : p.k = 2) : (p.v = 0 → oneT p = ((([109] ++ (46 :: itoa p.r)) ++ (46 :: itoa p.c)) ++ (46 :: itoa p.f)) ++ (46 :: itoa p.s)) ∧ (¬ p.v = 0 → oneT p = []) := by
  unfold oneT ptT
  rw [if_neg (by omega), if_pos h]
  exact ⟨fun h => by rw [if_pos h]; simp [dots], fun h => by rw [if_neg h]; rfl⟩
theorem oneT3 {p : Pk} (h : p.k = 3) : oneT p = (((([97] ++ (46 :: itoa p.r)) ++ (46 :: itoa p.c)) ++ (46 :: itoa p.v)) ++ (46 :: itoa p.f)) ++ (46 :: itoa p.s) := by
  unfold oneT ptT
  rw [if_neg (by omega), if_neg (by omega), if_pos h]
  simp [dots]
theorem oneT0 {p : Pk} (h1 : ¬ p.k = 1) (h2 : ¬ p.k = 2) (h3 : ¬ p.k = 3) : oneT p = [] := by
  unfold oneT ptT
  rw [if_neg h1, if_neg h2, if_neg h3]
  rfl
theorem dot_le {n : Int} (h : Fit n) : (bytes (46 :: itoa n)).size ≤ 22 := by
  rw [bytes_size, List.length_cons]
  have := itoa_length_le n h.1 h.2
  omega
theorem eqs {a b : Int} (h : a = b) : (a == b) = true := by simp [h]
theorem nes {a b : Int} (h : ¬ a = b) : (a == b) = false := by simp [h]
set_option maxRecDepth 100000 in
set_option maxHeartbeats 2000000 in
theorem one_b (p : Pk) (hok : p.ok) (w : World) :
    Calls Tryd.prog 14 #[.agg (pkC p)] w fun e w' => e = .returned (.string (bytes (oneT p))) ∧ Below w.heap.size w w' := by
  obtain ⟨o1, o2, o3, o4, o5⟩ := hok
  have T1 := hide (@oneT1 p)
  have T2 := hide (@oneT2 p)
  have T3 := hide (@oneT3 p)
  have T0 := hide (@oneT0 p)
  have N1 := hide (dot_b p.r o1.1 o1.2)
  have N2 := hide (dot_b p.c o2.1 o2.2)
  have N3 := hide (dot_b p.f o3.1 o3.2)
  have N4 := hide (dot_b p.s o4.1 o4.2)
  have N5 := hide (dot_b p.v o5.1 o5.2)
  have l1 := dot_le o1
  have l2 := dot_le o2
  have l3 := dot_le o3
  have l4 := dot_le o4
  have l5 := dot_le o5
  generalize oneT p = TT at *
  obtain ⟨k, r, c, f, s, v⟩ := p
  simp only [pkC] at *
  have bk := Blk.new w 39 #[.int .u8 k, .int .i64 r, .int .i64 c, .int .i64 f, .int .i64 s, .int .i64 v]
  have hb1 := (Below.refl w.heap.size w).alloc (Nat.le_refl _) (.cells #[.int .u8 k, .int .i64 r, .int .i64 c, .int .i64 f, .int .i64 s, .int .i64 v] 39)
  have q0 := bk.cell 0
  have q1 := bk.cell 1
  have q2 := bk.cell 2
  have q3 := bk.cell 3
  have q4 := bk.cell 4
  have q5 := bk.cell 5
  simp only [List.getElem?_toArray, List.getElem?_cons_zero, List.getElem?_cons_succ] at q0 q1 q2 q3 q4 q5
  have hlt : w.heap.size < (w.alloc (.cells #[.int .u8 k, .int .i64 r, .int .i64 c, .int .i64 f, .int .i64 s, .int .i64 v] 39)).heap.size := by simp
  have HB := hide hb1
  clear o1 o2 o3 o4 o5 hb1 bk
  by_cases k1 : k = 1
  · have e1 := eqs k1
    have t1 := T1.out k1
    by_cases c0 : c = 0
    rotate_left
    · have d1 := nes c0
      have hT := t1.2 (fun h => c0 h.1)
      subst hT
      clear k1 T1 T2 T3 T0 t1 c0
      go_enter Tryd.func14, Tryd.ntmps14
      go_wp2_with fail
      go_ret
      exact ⟨rfl, HB.out⟩
    have d1 := eqs c0
    by_cases f0 : f = 0
    rotate_left
    · have d2 := nes f0
      have hT := t1.2 (fun h => f0 h.2.1)
      subst hT
      clear k1 T1 T2 T3 T0 t1 f0 c0
      go_enter Tryd.func14, Tryd.ntmps14
      go_wp2_with fail
      go_ret
      exact ⟨rfl, HB.out⟩
    have d2 := eqs f0
    by_cases s0 : s = 0
    rotate_left
    · have d3 := nes s0
      have hT := t1.2 (fun h => s0 h.2.2.1)
      subst hT
      clear k1 T1 T2 T3 T0 t1 f0 c0 s0
      go_enter Tryd.func14, Tryd.ntmps14
      go_wp2_with fail
      go_ret
      exact ⟨rfl, HB.out⟩
    have d3 := eqs s0
    by_cases v0 : v = 0
    rotate_left
    · have d4 := nes v0
      have hT := t1.2 (fun h => v0 h.2.2.2)
      subst hT
      clear k1 T1 T2 T3 T0 t1 f0 c0 s0 v0
      go_enter Tryd.func14, Tryd.ntmps14
      go_wp2_with fail
      go_ret
      exact ⟨rfl, HB.out⟩
    have d4 := eqs v0
    have hT : Hid (bytes TT = bytes [103] ++ bytes (46 :: itoa r)) := hide (by rw [t1.1 ⟨c0, f0, s0, v0⟩, bytes_app])
    rw [hT.out]
    have m1 : ¬ 9223372036854775807 < 1 + (bytes (46 :: itoa r)).size := by omega
    clear k1 T1 T2 T3 T0 t1 f0 c0 s0 v0 hT l1 l2 l3 l4 l5
    generalize bytes (46 :: itoa r) = S1 at *
    go_enter Tryd.func14, Tryd.ntmps14
    go_wp2_with fail
    refine (N1.out _).mono ?_
    rintro e w1 ⟨rfl, hb1⟩
    have B1 := hide (HB.out.trans (hb1.mono HB.out.size))
    clear hb1
    go_wp2_with fail
    go_ret
    exact ⟨rfl, B1.out⟩
  have e1 := nes k1
  by_cases k2 : k = 2
  · have e2 := eqs k2
    have t2 := T2.out k2
    by_cases v0 : v = 0
    rotate_left
    · have d4 := nes v0
      have hT := t2.2 v0
      subst hT
      clear k1 k2 T1 T2 T3 T0 t2 v0
      go_enter Tryd.func14, Tryd.ntmps14
      go_wp2_with fail
      go_ret
      exact ⟨rfl, HB.out⟩
    have d4 := eqs v0
    have hT : Hid (bytes TT = (((bytes [109] ++ bytes (46 :: itoa r)) ++ bytes (46 :: itoa c)) ++ bytes (46 :: itoa f)) ++ bytes (46 :: itoa s)) := hide (by rw [t2.1 v0]; simp only [bytes_app])
    rw [hT.out]
    clear k1 k2 T1 T2 T3 T0 t2 v0 hT l5
    generalize bytes (46 :: itoa r) = S1 at *
    generalize bytes (46 :: itoa c) = S2 at *
    generalize bytes (46 :: itoa f) = S3 at *
    generalize bytes (46 :: itoa s) = S4 at *
    have m1 : ¬ 9223372036854775807 < 1 + S1.size := by omega
    have m2 : ¬ 9223372036854775807 < 1 + S1.size + S2.size := by omega
    have m3 : ¬ 9223372036854775807 < 1 + S1.size + S2.size + S3.size := by omega
    have m4 : ¬ 9223372036854775807 < 1 + S1.size + S2.size + S3.size + S4.size := by omega
    clear l1 l2 l3 l4
    obtain ⟨W1, hW1⟩ : ∃ W1, w.alloc (.cells #[.int .u8 k, .int .i64 r, .int .i64 c, .int .i64 f, .int .i64 s, .int .i64 v] 39) = W1 := ⟨_, rfl⟩
    have ne : Nonempty (BelowOf W1) := ⟨⟨W1, Below.refl _ _⟩⟩
    rw [hW1] at HB hlt q0 q1 q2 q3 q4 q5
    have q1 : ∀ p : BelowOf W1, p.world.cell? ⟨w.heap.size, 1, none⟩ = some (.int .i64 r) := fun p => p.cell hlt q1
    have q2 : ∀ p : BelowOf W1, p.world.cell? ⟨w.heap.size, 2, none⟩ = some (.int .i64 c) := fun p => p.cell hlt q2
    have q3 : ∀ p : BelowOf W1, p.world.cell? ⟨w.heap.size, 3, none⟩ = some (.int .i64 f) := fun p => p.cell hlt q3
    have q4 : ∀ p : BelowOf W1, p.world.cell? ⟨w.heap.size, 4, none⟩ = some (.int .i64 s) := fun p => p.cell hlt q4
    go_enter Tryd.func14, Tryd.ntmps14
    go_wp2_with fail
    refine wp_region_quiet_below (by kernel_rfl) (by kernel_rfl) ?_
    repeat (go_big_quiet_step (first
      | (go_at_call_of 22 (Value.int .i64 r); refine calls_below (N1.out _))
      | (go_at_call_of 22 (Value.int .i64 c); refine calls_below (N2.out _))
      | (go_at_call_of 22 (Value.int .i64 f); refine calls_below (N3.out _))
      | (go_at_call_of 22 (Value.int .i64 s); refine calls_below (N4.out _))))
    refine wpQuiet_nil ?_
    rintro Wq ⟨⟨_, hq⟩, rfl⟩
    have HQ := hide (HB.out.trans (hq.mono HB.out.size))
    clear hq
    go_wp2_with fail
    go_ret
    exact ⟨rfl, HQ.out⟩
  have e2 := nes k2
  by_cases k3 : k = 3
  · have e3 := eqs k3
    have t3 := T3.out k3
    have hT : Hid (bytes TT = ((((bytes [97] ++ bytes (46 :: itoa r)) ++ bytes (46 :: itoa c)) ++ bytes (46 :: itoa v)) ++ bytes (46 :: itoa f)) ++ bytes (46 :: itoa s)) := hide (by rw [t3]; simp only [bytes_app])
    rw [hT.out]
    clear k1 k2 k3 T1 T2 T3 T0 t3 hT
    generalize bytes (46 :: itoa r) = S1 at *
    generalize bytes (46 :: itoa c) = S2 at *
    generalize bytes (46 :: itoa f) = S3 at *
    generalize bytes (46 :: itoa s) = S4 at *
    generalize bytes (46 :: itoa v) = S5 at *
    have m1 : ¬ 9223372036854775807 < 1 + S1.size := by omega
    have m2 : ¬ 9223372036854775807 < 1 + S1.size + S2.size := by omega
    have m3 : ¬ 9223372036854775807 < 1 + S1.size + S2.size + S5.size := by omega
    have m4 : ¬ 9223372036854775807 < 1 + S1.size + S2.size + S5.size + S3.size := by omega
    have m5 : ¬ 9223372036854775807 < 1 + S1.size + S2.size + S5.size + S3.size + S4.size := by omega
    clear l1 l2 l3 l4 l5
    obtain ⟨W1, hW1⟩ : ∃ W1, w.alloc (.cells #[.int .u8 k, .int .i64 r, .int .i64 c, .int .i64 f, .int .i64 s, .int .i64 v] 39) = W1 := ⟨_, rfl⟩
    have ne : Nonempty (BelowOf W1) := ⟨⟨W1, Below.refl _ _⟩⟩
    rw [hW1] at HB hlt q0 q1 q2 q3 q4 q5
    have q1 : ∀ p : BelowOf W1, p.world.cell? ⟨w.heap.size, 1, none⟩ = some (.int .i64 r) := fun p => p.cell hlt q1
    have q2 : ∀ p : BelowOf W1, p.world.cell? ⟨w.heap.size, 2, none⟩ = some (.int .i64 c) := fun p => p.cell hlt q2
    have q3 : ∀ p : BelowOf W1, p.world.cell? ⟨w.heap.size, 3, none⟩ = some (.int .i64 f) := fun p => p.cell hlt q3
    have q4 : ∀ p : BelowOf W1, p.world.cell? ⟨w.heap.size, 4, none⟩ = some (.int .i64 s) := fun p => p.cell hlt q4
    have q5 : ∀ p : BelowOf W1, p.world.cell? ⟨w.heap.size, 5, none⟩ = some (.int .i64 v) := fun p => p.cell hlt q5
    go_enter Tryd.func14, Tryd.ntmps14
    go_wp2_with fail
    refine wp_region_quiet_below (by kernel_rfl) (by kernel_rfl) ?_
    repeat (go_big_quiet_step (first
      | (go_at_call_of 22 (Value.int .i64 r); refine calls_below (N1.out _))
      | (go_at_call_of 22 (Value.int .i64 c); refine calls_below (N2.out _))
      | (go_at_call_of 22 (Value.int .i64 v); refine calls_below (N5.out _))
      | (go_at_call_of 22 (Value.int .i64 f); refine calls_below (N3.out _))
      | (go_at_call_of 22 (Value.int .i64 s); refine calls_below (N4.out _))))
    refine wpQuiet_nil ?_
    rintro Wq ⟨⟨_, hq⟩, rfl⟩
    have HQ := hide (HB.out.trans (hq.mono HB.out.size))
    clear hq
    go_wp2_with fail
    go_ret
    exact ⟨rfl, HQ.out⟩
  have e3 := nes k3
  have hT := T0.out k1 k2 k3
  subst hT
  clear k1 k2 k3 T1 T2 T3 T0
  go_enter Tryd.func14, Tryd.ntmps14
  go_wp2_with fail
  go_ret
  exact ⟨rfl, HB.out⟩
end Wit
end Go.Proofs.YtaakndenkfkijaaDoor
