/- Which messages may be a receive's, of no queue: none. -/
import Derived.Test.YtonmojinijpneaaRows
import Derived.Test.YtonmojinijpneaaPoA
namespace Go.Proofs.Ytonmojinijpneaa
open Go Go.Joins Go.ChangeShapes Go.WideShapes Go.RowKit Go.Deep
set_option linter.unusedVariables false
set_option linter.unusedSimpArgs false
namespace Po
set_option maxRecDepth 100000 in
theorem qmade_nq (w : World) : Calls Try.prog 50 #[.pointer none] w fun e w' => e = .returned (.bool false) ∧ w = w' := by
  go_enter Try.func50, Try.ntmps50
  go_wp2
  go_ret
  exact ⟨rfl, rfl⟩
set_option maxRecDepth 100000 in
theorem senders_nq (key : ByteArray) (tt : Int) (w : World) : Calls Try.prog 78 #[.pointer none, .string key, .int .i64 tt] w fun e w' => e = .returned (.slice none 0 0) ∧ w = w' := by
  go_enter Try.func78, Try.ntmps78
  go_wp2_with (go_at_call 50; refine (qmade_nq _).mono ?_; rintro e w' ⟨rfl, rfl⟩)
  go_ret
  exact ⟨rfl, rfl⟩
set_option maxRecDepth 100000 in
theorem first_nq (key : ByteArray) (fr tt tg : Int) (w : World) : Calls Try.prog 79 #[.pointer none, .string key, .int .i64 fr, .int .i64 tt, .int .i64 tg] w fun e w' => e = .returned (.tuple #[.agg #[.string ⟨#[]⟩, .int .i64 0, .int .i64 0, .int .i64 0, .int .i64 0, .int .i64 0, .int .i64 0, .bool false], .bool false]) ∧ Below w.heap.size w w' := by
  go_enter Try.func79, Try.ntmps79
  go_wp2_with (go_at_call 50; refine (qmade_nq _).mono ?_; rintro e w' ⟨rfl, rfl⟩)
  exact bodyPost_ret (v := .tuple #[.agg #[.string ⟨#[]⟩, .int .i64 0, .int .i64 0, .int .i64 0, .int .i64 0, .int .i64 0, .int .i64 0, .bool false], .bool false]) (by simp [results, Try.results79, go_sem]) rfl ⟨rfl, ((Below.refl _ _).alloc (Nat.le_refl _) _)⟩
set_option maxRecDepth 100000 in
set_option maxHeartbeats 4000000 in
theorem free_nq (sl : Value) (key : ByteArray) (rk ca pe tg rq : Int) (dn : Bool) (fr sq : Int) (w : World) : Calls Try.prog 58 #[.pointer none, .agg #[.string key, .int .i64 rk, .int .i64 ca, .int .i64 pe, .int .i64 tg, .int .i64 rq, .bool dn, .int .i64 fr, .int .i64 sq], sl] w fun e w' => e = .returned (.slice none 0 0) ∧ Below w.heap.size w w' := by
  have b1 := (Below.refl w.heap.size w).alloc (Nat.le_refl _) (.cells #[.string key, .int .i64 rk, .int .i64 ca, .int .i64 pe, .int .i64 tg, .int .i64 rq, .bool dn, .int .i64 fr, .int .i64 sq] 35)
  have k1 := Blk.new w 35 #[.string key, .int .i64 rk, .int .i64 ca, .int .i64 pe, .int .i64 tg, .int .i64 rq, .bool dn, .int .i64 fr, .int .i64 sq]
  obtain ⟨w1, hw1⟩ : ∃ z, w.alloc (.cells #[.string key, .int .i64 rk, .int .i64 ca, .int .i64 pe, .int .i64 tg, .int .i64 rq, .bool dn, .int .i64 fr, .int .i64 sq] 35) = z := ⟨_, rfl⟩
  obtain ⟨X, hX⟩ : ∃ z, w.heap.size = z := ⟨_, rfl⟩
  have s1 : w1.heap.size = w.heap.size + 1 := by rw [← hw1]; simp
  rw [hw1] at b1 k1
  have b2 := (Below.refl w1.heap.size w1).alloc (Nat.le_refl _) (.cells #[.int .i64 pe] 3)
  have k2 := Blk.new w1 3 #[.int .i64 pe]
  obtain ⟨w2, hw2⟩ : ∃ z, w1.alloc (.cells #[.int .i64 pe] 3) = z := ⟨_, rfl⟩
  obtain ⟨Y, hY⟩ : ∃ z, w1.heap.size = z := ⟨_, rfl⟩
  have s2 : w2.heap.size = w.heap.size + 2 := by rw [← hw2]; simp [s1]
  rw [hw2] at b2 k2
  rw [hX] at k1 s1 s2
  rw [hY] at k2 b2 s1
  have m0 : ∀ k v, w1.cell? ⟨X, k, none⟩ = some v → w2.cell? ⟨X, k, none⟩ = some v := fun k v hv => (b2.cell (p := ⟨X, k, none⟩) (show X < Y by omega)).trans hv
  have B2 : Hid (Below w.heap.size w w2) := hide (b1.trans (b2.mono (by omega)))
  have S2 := hide s2
  have KB := hide (show w2.cell? ⟨X, 0, none⟩ = some (.string key) ∧ w2.cell? ⟨X, 1, none⟩ = some (.int .i64 rk) ∧ w2.cell? ⟨X, 3, none⟩ = some (.int .i64 pe) ∧ w2.cell? ⟨X, 4, none⟩ = some (.int .i64 tg) ∧ w2.cell? ⟨Y, 0, none⟩ = some (.int .i64 pe) ∧ X < w2.heap.size ∧ Y < w2.heap.size from ⟨m0 _ _ (k1.cell 0), m0 _ _ (k1.cell 1), m0 _ _ (k1.cell 3), m0 _ _ (k1.cell 4), k2.cell 0, by omega, by omega⟩)
  have HW1 := hide hw1
  have HW2 := hide hw2
  have HX := hide hX
  have HY := hide (show X + 1 = Y by omega)
  clear hw1 hw2 hX hY b1 b2 k1 k2 s1 s2 m0
  by_cases hp : pe = -1
  · obtain rfl := hp
    go_enter Try.func58, Try.ntmps58
    go_upto_region 2 with (fail)
    rw [HW1.out, HX.out, HW2.out, HY.out]
    obtain ⟨q0, q1, q2, q3, q4, _, _⟩ := KB.out
    go_wp2_with (first | (go_at_call 78; refine (senders_nq _ _ _).mono ?_; rintro e w' ⟨rfl, rfl⟩) | fail)
    go_loopw [8, 10, 11, 12, 27] (fun v8 _ _ _ v27 wr => v8 = .slice none 0 0 ∧ v27 = .int .i64 0 ∧ wr = w2) (fun _ _ _ _ _ _ => 0)
    case atStart => exact ⟨rfl, rfl, rfl⟩
    case round =>
      obtain ⟨rfl, rfl, rfl⟩ := hrel
      go_wp2_with (go_at_call 80; refine (filterM_no _ _).mono ?_; rintro e w' ⟨rfl, rfl⟩)
      go_ret
      exact ⟨rfl, B2.out⟩
  · go_enter Try.func58, Try.ntmps58
    go_upto_region 2 with (fail)
    rw [HW1.out, HX.out, HW2.out, HY.out]
    obtain ⟨q0, q1, q2, q3, q4, _, _⟩ := KB.out
    have hpb : (pe == (-1 : Int)) = false := by simp [hp]
    go_wp2_with fail
    clear q0 q1 q2 q3 q4 hpb
    go_loopw [8, 10, 11, 12, 27] (fun v8 _ _ _ v27 wr => v8 = .slice none 0 0 ∧ (∃ k : Nat, k ≤ 1 ∧ v27 = .int .i64 k) ∧ Hid (Below w2.heap.size w2 wr)) (fun _ _ _ _ v27 _ => 1 - (RowKit.intOf v27).toNat)
    case atStart => exact ⟨rfl, ⟨0, by omega, rfl⟩, hide (Below.refl _ _)⟩
    case round =>
      obtain ⟨rfl, ⟨k, hk, rfl⟩, HB⟩ := hrel
      rename World => wr
      by_cases hlt : k < 1
      · obtain rfl : k = 0 := by omega
        obtain ⟨p0, p1, p2, p3, p4, l1, l2⟩ := KB.out
        have q0 := (HB.out.cell (p := ⟨X, 0, none⟩) l1).trans p0
        have q1 := (HB.out.cell (p := ⟨X, 1, none⟩) l1).trans p1
        have q3 := (HB.out.cell (p := ⟨X, 4, none⟩) l1).trans p3
        have q4 := (HB.out.cell (p := ⟨Y, 0, none⟩) l2).trans p4
        clear p0 p1 p2 p3 p4
        go_wp2_with fail
        refine (first_nq _ _ _ _ _).mono ?_
        rintro e W1 ⟨rfl, hb⟩
        have HB1 := hide (HB.out.trans ((hb.trans ((Below.refl _ W1).alloc hb.size (.cells #[.string ⟨#[]⟩, .int .i64 0, .int .i64 0, .int .i64 0, .int .i64 0, .int .i64 0, .int .i64 0, .bool false] 33))).mono HB.out.size))
        clear hb q0 q1 q3 q4
        go_wp2_with fail
        go_roundw
        case rel => exact ⟨rfl, ⟨1, by omega, by go_num⟩, HB1⟩
        case measure => simp [RowKit.intOf]
      · obtain rfl : k = 1 := by omega
        go_wp2_with (go_at_call 80; refine (filterM_no _ _).mono ?_; rintro e w' ⟨rfl, rfl⟩)
        go_ret
        exact ⟨rfl, B2.out.trans (HB.out.mono (by have := S2.out; have := HX.out; omega))⟩
end Po
end Go.Proofs.Ytonmojinijpneaa
