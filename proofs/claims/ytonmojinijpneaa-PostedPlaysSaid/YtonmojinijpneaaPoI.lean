/- What comes in: an act; Great of one. -/
import Derived.Test.YtonmojinijpneaaRows
import Derived.Test.YtonmojinijpneaaPoH
import Derived.Test.YtonmojinijpneaaFlat
namespace Go.Proofs.Ytonmojinijpneaa
open Go Go.Joins Go.ChangeShapes Go.WideShapes Go.RowKit Go.Deep Go.Lib
set_option linter.unusedVariables false
set_option linter.unusedSimpArgs false
namespace Po
def actK : List Kd := [.i .u8, .s, .i .i64, .i .i64, .i .i64, .i .i64, .i .i64, .i .i64, .b, .s, .i .i64, .i .i64, .i .i64, .i .i64, .i .i64, .b, .i .i64, .i .i64]
theorem eighteen (l : List Value) (h : l.length = 18) : ∃ c0 c1 c2 c3 c4 c5 c6 c7 c8 c9 c10 c11 c12 c13 c14 c15 c16 c17, l = [c0, c1, c2, c3, c4, c5, c6, c7, c8, c9, c10, c11, c12, c13, c14, c15, c16, c17] := by
  match l, h with
  | [c0, c1, c2, c3, c4, c5, c6, c7, c8, c9, c10, c11, c12, c13, c14, c15, c16, c17], _ => exact ⟨_, _, _, _, _, _, _, _, _, _, _, _, _, _, _, _, _, _, rfl⟩
section
variable {H : Type} {enc : TypeId × Value → H} {w : World} {base : Nat} {spare : Nat → Bool} {held : Bool}
set_option maxRecDepth 100000 in
theorem act_of {v : Value} {d : DataW H} {p : List MemPlace} {b0 : Nat} (o : Value.okWide Try.prog w .any b0 37 v) (r : DataW.Trod enc Try.prog w base spare held 37 v d p) :
    ∃ (kd : Int) (mkey : ByteArray) (mfr mto mca mtg mva msz : Int) (mtk : Bool) (rkey : ByteArray) (rrk rca rpe rtg rrq : Int) (rdn : Bool) (rfr rsq : Int), v = .agg #[.int .u8 kd, .string mkey, .int .i64 mfr, .int .i64 mto, .int .i64 mca, .int .i64 mtg, .int .i64 mva, .int .i64 msz, .bool mtk, .string rkey, .int .i64 rrk, .int .i64 rca, .int .i64 rpe, .int .i64 rtg, .int .i64 rrq, .bool rdn, .int .i64 rfr, .int .i64 rsq] := by
  obtain ⟨cs, rfl, hsz⟩ := okWide_struct Try.underlying37 o
  obtain ⟨fuel, hf⟩ := r
  obtain ⟨l⟩ := cs
  have hfit : Fits actK l := (flat_both 30).1 37 actK (by kernel_rfl) fuel l (d, p) (by simpa [Value.cells] using hf)
  obtain ⟨c0, c1, c2, c3, c4, c5, c6, c7, c8, c9, c10, c11, c12, c13, c14, c15, c16, c17, rfl⟩ := eighteen l hfit.1
  obtain ⟨v0, g0, f0⟩ := hfit.2 0 _ rfl
  obtain ⟨v1, g1, f1⟩ := hfit.2 1 _ rfl
  obtain ⟨v2, g2, f2⟩ := hfit.2 2 _ rfl
  obtain ⟨v3, g3, f3⟩ := hfit.2 3 _ rfl
  obtain ⟨v4, g4, f4⟩ := hfit.2 4 _ rfl
  obtain ⟨v5, g5, f5⟩ := hfit.2 5 _ rfl
  obtain ⟨v6, g6, f6⟩ := hfit.2 6 _ rfl
  obtain ⟨v7, g7, f7⟩ := hfit.2 7 _ rfl
  obtain ⟨v8, g8, f8⟩ := hfit.2 8 _ rfl
  obtain ⟨v9, g9, f9⟩ := hfit.2 9 _ rfl
  obtain ⟨v10, g10, f10⟩ := hfit.2 10 _ rfl
  obtain ⟨v11, g11, f11⟩ := hfit.2 11 _ rfl
  obtain ⟨v12, g12, f12⟩ := hfit.2 12 _ rfl
  obtain ⟨v13, g13, f13⟩ := hfit.2 13 _ rfl
  obtain ⟨v14, g14, f14⟩ := hfit.2 14 _ rfl
  obtain ⟨v15, g15, f15⟩ := hfit.2 15 _ rfl
  obtain ⟨v16, g16, f16⟩ := hfit.2 16 _ rfl
  obtain ⟨v17, g17, f17⟩ := hfit.2 17 _ rfl
  obtain ⟨z0, rfl, _⟩ := f0
  obtain ⟨z1, rfl, _⟩ := f1
  obtain ⟨z2, rfl, _⟩ := f2
  obtain ⟨z3, rfl, _⟩ := f3
  obtain ⟨z4, rfl, _⟩ := f4
  obtain ⟨z5, rfl, _⟩ := f5
  obtain ⟨z6, rfl, _⟩ := f6
  obtain ⟨z7, rfl, _⟩ := f7
  obtain ⟨z8, rfl⟩ := f8
  obtain ⟨z9, rfl, _⟩ := f9
  obtain ⟨z10, rfl, _⟩ := f10
  obtain ⟨z11, rfl, _⟩ := f11
  obtain ⟨z12, rfl, _⟩ := f12
  obtain ⟨z13, rfl, _⟩ := f13
  obtain ⟨z14, rfl, _⟩ := f14
  obtain ⟨z15, rfl⟩ := f15
  obtain ⟨z16, rfl, _⟩ := f16
  obtain ⟨z17, rfl, _⟩ := f17
  obtain rfl : c0 = .int .u8 z0 := by simpa using g0
  obtain rfl : c1 = .string z1 := by simpa using g1
  obtain rfl : c2 = .int .i64 z2 := by simpa using g2
  obtain rfl : c3 = .int .i64 z3 := by simpa using g3
  obtain rfl : c4 = .int .i64 z4 := by simpa using g4
  obtain rfl : c5 = .int .i64 z5 := by simpa using g5
  obtain rfl : c6 = .int .i64 z6 := by simpa using g6
  obtain rfl : c7 = .int .i64 z7 := by simpa using g7
  obtain rfl : c8 = .bool z8 := by simpa using g8
  obtain rfl : c9 = .string z9 := by simpa using g9
  obtain rfl : c10 = .int .i64 z10 := by simpa using g10
  obtain rfl : c11 = .int .i64 z11 := by simpa using g11
  obtain rfl : c12 = .int .i64 z12 := by simpa using g12
  obtain rfl : c13 = .int .i64 z13 := by simpa using g13
  obtain rfl : c14 = .int .i64 z14 := by simpa using g14
  obtain rfl : c15 = .bool z15 := by simpa using g15
  obtain rfl : c16 = .int .i64 z16 := by simpa using g16
  obtain rfl : c17 = .int .i64 z17 := by simpa using g17
  exact ⟨z0, z1, z2, z3, z4, z5, z6, z7, z8, z9, z10, z11, z12, z13, z14, z15, z16, z17, rfl⟩
end
set_option maxRecDepth 100000 in
theorem great_one (w : World) (g : Nat) (k1 k2 : ByteArray) (h1 : w.cell? ⟨g, 1, none⟩ = some (.string k1)) (h2 : w.cell? ⟨g, 9, none⟩ = some (.string k2)) : Calls Try.prog 10 #[.slice (some ⟨g, 0, none⟩) 1 1] w fun e w' => e = .returned (.bool (decide (100 < k1.size ∨ 100 < k2.size))) ∧ w = w' := by
  have H1 := hide h1
  have H2 := hide h2
  by_cases b1 : 100 < k1.size
  · have b1' : (100 : Int) < (k1.size : Int) := by omega
    rw [show decide (100 < k1.size ∨ 100 < k2.size) = true from decide_eq_true (.inl b1)]
    go_enter Try.func10, Try.ntmps10
    go_wp2_with fail
    go_loopw [3] (fun v3 wr => v3 = .int .i64 0 ∧ wr = w) (fun _ _ => 0)
    case atStart => exact ⟨rfl, rfl⟩
    case round =>
      obtain ⟨rfl, rfl⟩ := hrel
      have h1 := H1.out
      have h2 := H2.out
      go_wp2
      go_ret
      exact ⟨rfl, rfl⟩
  have b1' : ¬ (100 : Int) < (k1.size : Int) := by omega
  by_cases b2 : 100 < k2.size
  · have b2' : (100 : Int) < (k2.size : Int) := by omega
    rw [show decide (100 < k1.size ∨ 100 < k2.size) = true from decide_eq_true (.inr b2)]
    go_enter Try.func10, Try.ntmps10
    go_wp2_with fail
    go_loopw [3] (fun v3 wr => v3 = .int .i64 0 ∧ wr = w) (fun _ _ => 0)
    case atStart => exact ⟨rfl, rfl⟩
    case round =>
      obtain ⟨rfl, rfl⟩ := hrel
      have h1 := H1.out
      have h2 := H2.out
      go_wp2
      go_ret
      exact ⟨rfl, rfl⟩
  have b2' : ¬ (100 : Int) < (k2.size : Int) := by omega
  rw [show decide (100 < k1.size ∨ 100 < k2.size) = false from decide_eq_false (by omega)]
  go_enter Try.func10, Try.ntmps10
  go_wp2_with fail
  go_loopw [3] (fun v3 wr => (∃ k : Nat, k ≤ 1 ∧ v3 = .int .i64 k) ∧ wr = w) (fun v3 _ => 1 - (RowKit.intOf v3).toNat)
  case atStart => exact ⟨⟨0, by omega, rfl⟩, rfl⟩
  case round =>
    obtain ⟨⟨k, hk, rfl⟩, rfl⟩ := hrel
    by_cases hlt : k < 1
    · obtain rfl : k = 0 := by omega
      have h1 := H1.out
      have h2 := H2.out
      go_wp2_with fail
      go_roundw
      case rel => exact ⟨⟨1, by omega, by go_num⟩, trivial⟩
      case measure => simp [RowKit.intOf]
    · obtain rfl : k = 1 := by omega
      go_wp2
      go_ret
      exact ⟨rfl, rfl⟩
end Po
end Go.Proofs.Ytonmojinijpneaa
