/- A queue: made, new; which messages may be. -/
import Derived.Test.YtonmojinijpneaaRows
import Derived.Test.YtonmojinijpneaaQuB
import Derived.Laws.Cover3
namespace Go.Proofs.Ytonmojinijpneaa
open Go Go.RowKit Go.Lib
set_option linter.unusedVariables false
set_option linter.unusedSimpArgs false
namespace Qu
theorem row_info : (Try.prog.info? 103).map (fun i => (i.zero, i.size, i.bytes)) = some (some (.agg #[.slice none 0 0, .int .i64 0]), 2, 32) := by kernel_rfl
theorem place_info : (Try.prog.info? 108).map (fun i => (i.zero, i.size, i.bytes)) = some (some (.agg #[.string ⟨#[]⟩, .int .i64 0, .int .i64 0, .int .i64 0]), 4, 40) := by kernel_rfl
theorem ints_info : (Try.prog.info? 116).map (fun i => (i.zero, i.size, i.bytes)) = some (some (.slice none 0 0), 1, 24) := by kernel_rfl
theorem run_make {mt kt vt : TypeId} (hm : Try.prog.underlying mt = some (.map kt vt)) (w : World) : (Instr.makeMap mt none).run Try.prog w = .ok (.map (some w.heap.size)) (w.alloc (.map #[] 0)) := by simp [Instr.makeMap, run_underlying hm]
theorem zero_row (w : World) : (zeroValue 103).run Try.prog w = .ok (.agg #[.slice none 0 0, .int .i64 0]) w := by
  obtain ⟨i0, hi0, hz0, _, _⟩ := info_parts row_info
  simp [zeroValue, typeInfo, hi0, hz0]
theorem zero_place (w : World) : (zeroValue 108).run Try.prog w = .ok (.agg #[.string ⟨#[]⟩, .int .i64 0, .int .i64 0, .int .i64 0]) w := by
  obtain ⟨i0, hi0, hz0, _, _⟩ := info_parts place_info
  simp [zeroValue, typeInfo, hi0, hz0]
theorem zero_ints (w : World) : (zeroValue 116).run Try.prog w = .ok (.slice none 0 0) w := by
  obtain ⟨i0, hi0, hz0, _, _⟩ := info_parts ints_info
  simp [zeroValue, typeInfo, hi0, hz0]
set_option maxRecDepth 100000 in
theorem made_c {w : World} {q : Nat} {L : QL} {l : List Msg} (h : QSt w q L l) : Calls Try.prog 50 #[.pointer (some ⟨q, 0, none⟩)] w fun e w' => e = .returned (.bool true) ∧ w = w' := by
  have c0 : w.cell? ⟨q, 0, none⟩ = some (.map (some L.cm)) := h.blk.cell 0
  have hu : ∀ w, (binOp BinOp.neq 89 (Value.map (some L.cm)) (Value.map none)).run Try.prog w = .ok (.bool true) w := fun w => run_neq_map_nil w _ _ _ (some L.cm) Try.underlying89
  clear h
  go_enter Try.func50, Try.ntmps50
  go_wp2
  go_ret
  exact ⟨rfl, rfl⟩
set_option maxRecDepth 100000 in
set_option maxHeartbeats 4000000 in
theorem may_c (m : Msg) (w : World) : Calls Try.prog 61 #[.agg #[.string m.key, .int .i64 m.fr, .int .i64 m.to, .int .i64 m.ca, .int .i64 m.tg, .int .i64 m.va, .int .i64 m.sz, .bool m.tk]] w fun e w' => e = .returned (.bool (decide (mayM m))) ∧ Below w.heap.size w w' := by
  have HB := hide ((Below.refl w.heap.size w).alloc (Nat.le_refl _) (.cells #[.string m.key, .int .i64 m.fr, .int .i64 m.to, .int .i64 m.ca, .int .i64 m.tg, .int .i64 m.va, .int .i64 m.sz, .bool m.tk] 33))
  obtain ⟨key, fr, to, ca, tg, va, sz, tk⟩ := m
  simp only at HB ⊢
  by_cases h0 : 0 ≤ fr
  rotate_left
  · rw [show decide (mayM ⟨key, fr, to, ca, tg, va, sz, tk⟩) = false from decide_eq_false fun h => h0 (by unfold mayM at h; simp only at h; omega)]
    go_enter Try.func61, Try.ntmps61
    go_wp2
    go_ret
    exact ⟨rfl, HB.out⟩
  by_cases h1 : fr < 64
  rotate_left
  · rw [show decide (mayM ⟨key, fr, to, ca, tg, va, sz, tk⟩) = false from decide_eq_false fun h => h1 (by unfold mayM at h; simp only at h; omega)]
    go_enter Try.func61, Try.ntmps61
    go_wp2
    go_ret
    exact ⟨rfl, HB.out⟩
  by_cases h2 : 0 ≤ to
  rotate_left
  · rw [show decide (mayM ⟨key, fr, to, ca, tg, va, sz, tk⟩) = false from decide_eq_false fun h => h2 (by unfold mayM at h; simp only at h; omega)]
    go_enter Try.func61, Try.ntmps61
    go_wp2
    go_ret
    exact ⟨rfl, HB.out⟩
  by_cases h3 : to < 64
  rotate_left
  · rw [show decide (mayM ⟨key, fr, to, ca, tg, va, sz, tk⟩) = false from decide_eq_false fun h => h3 (by unfold mayM at h; simp only at h; omega)]
    go_enter Try.func61, Try.ntmps61
    go_wp2
    go_ret
    exact ⟨rfl, HB.out⟩
  by_cases h4 : 0 ≤ ca
  rotate_left
  · rw [show decide (mayM ⟨key, fr, to, ca, tg, va, sz, tk⟩) = false from decide_eq_false fun h => h4 (by unfold mayM at h; simp only at h; omega)]
    go_enter Try.func61, Try.ntmps61
    go_wp2
    go_ret
    exact ⟨rfl, HB.out⟩
  by_cases h5 : 0 ≤ tg
  rotate_left
  · rw [show decide (mayM ⟨key, fr, to, ca, tg, va, sz, tk⟩) = false from decide_eq_false fun h => h5 (by unfold mayM at h; simp only at h; omega)]
    go_enter Try.func61, Try.ntmps61
    go_wp2
    go_ret
    exact ⟨rfl, HB.out⟩
  by_cases h6 : tg ≤ 32767
  rotate_left
  · rw [show decide (mayM ⟨key, fr, to, ca, tg, va, sz, tk⟩) = false from decide_eq_false fun h => h6 (by unfold mayM at h; simp only at h; omega)]
    go_enter Try.func61, Try.ntmps61
    go_wp2
    go_ret
    exact ⟨rfl, HB.out⟩
  by_cases h7 : 1 ≤ sz
  rotate_left
  · rw [show decide (mayM ⟨key, fr, to, ca, tg, va, sz, tk⟩) = false from decide_eq_false fun h => h7 (by unfold mayM at h; simp only at h; omega)]
    go_enter Try.func61, Try.ntmps61
    go_wp2
    go_ret
    exact ⟨rfl, HB.out⟩
  by_cases h8 : sz ≤ 64
  rotate_left
  · rw [show decide (mayM ⟨key, fr, to, ca, tg, va, sz, tk⟩) = false from decide_eq_false fun h => h8 (by unfold mayM at h; simp only at h; omega)]
    go_enter Try.func61, Try.ntmps61
    go_wp2
    go_ret
    exact ⟨rfl, HB.out⟩
  cases tk with
  | true =>
    rw [show decide (mayM ⟨key, fr, to, ca, tg, va, sz, true⟩) = false from decide_eq_false fun h => by have := h.2.2.2.2.2.2.2.2.2; cases this]
    go_enter Try.func61, Try.ntmps61
    go_wp2
    go_ret
    exact ⟨rfl, HB.out⟩
  | false =>
    rw [show decide (mayM ⟨key, fr, to, ca, tg, va, sz, false⟩) = true from decide_eq_true ⟨h0, h1, h2, h3, h4, h5, h6, h7, h8, rfl⟩]
    go_enter Try.func61, Try.ntmps61
    go_wp2
    go_ret
    exact ⟨rfl, HB.out⟩
set_option maxRecDepth 100000 in
set_option maxHeartbeats 4000000 in
theorem New_c (w : World) : Calls Try.prog 27 #[] w fun e w' => ∃ q L, e = .returned (.pointer (some ⟨q, 0, none⟩)) ∧ QSt w' q L [] ∧ (∀ b ∈ L.foot q, w.heap.size ≤ b) ∧ Below w.heap.size w w' := by
  have b1 := (Below.refl w.heap.size w).alloc (Nat.le_refl _) (.map #[] 0)
  have m1 := SMap.MB.new chV w
  obtain ⟨w1, hw1⟩ : ∃ z, w.alloc (.map #[] 0) = z := ⟨_, rfl⟩
  have s1 : w1.heap.size = w.heap.size + 1 := by rw [← hw1]; simp
  rw [hw1] at b1 m1
  have b2 := (Below.refl w1.heap.size w1).alloc (Nat.le_refl _) (.map #[] 0)
  have m2 := SMap.MB.new whV w1
  obtain ⟨w2, hw2⟩ : ∃ z, w1.alloc (.map #[] 0) = z := ⟨_, rfl⟩
  have s2 : w2.heap.size = w.heap.size + 2 := by rw [← hw2]; simp [s1]
  rw [hw2] at b2 m2
  have b3 := (Below.refl w2.heap.size w2).alloc (Nat.le_refl _) (.map #[] 0)
  have m3 := SMap.MB.new inV w2
  obtain ⟨w3, hw3⟩ : ∃ z, w2.alloc (.map #[] 0) = z := ⟨_, rfl⟩
  have s3 : w3.heap.size = w.heap.size + 3 := by rw [← hw3]; simp [s2]
  rw [hw3] at b3 m3
  have b4 := (Below.refl w3.heap.size w3).alloc (Nat.le_refl _) (.cells #[.map (some w.heap.size), .map (some w1.heap.size), .map (some w2.heap.size)] 93)
  have k4 := Blk.new w3 93 #[.map (some w.heap.size), .map (some w1.heap.size), .map (some w2.heap.size)]
  obtain ⟨w4, hw4⟩ : ∃ z, w3.alloc (.cells #[.map (some w.heap.size), .map (some w1.heap.size), .map (some w2.heap.size)] 93) = z := ⟨_, rfl⟩
  rw [hw4] at b4 k4
  have hQ : QSt w4 w3.heap.size ⟨w.heap.size, w1.heap.size, w2.heap.size, [], [], []⟩ [] := by
    refine ⟨k4, ((m1.below b2 (by omega)).below b3 (by omega)).below b4 (by omega), (m2.below b3 (by omega)).below b4 (by omega), m3.below b4 (by omega), List.nodup_nil, List.nodup_nil, List.nodup_nil, ?_, ?_, fun p hp => absurd hp List.not_mem_nil, fun p hp => absurd hp List.not_mem_nil, fun x => rfl, ?_, fun p hp => absurd hp List.not_mem_nil, fun m hm => absurd hm List.not_mem_nil, List.nodup_nil⟩
    · show ([w3.heap.size, w.heap.size, w1.heap.size, w2.heap.size] : List Nat).Nodup
      simp
      omega
    · intro c
      simp [rowsOf]
    · intro b
      constructor
      · intro h; exact absurd h (by simp)
      · intro h
        exact absurd (List.filter_eq_nil_iff.2 (by simp)) h
  have hF : ∀ b ∈ (⟨w.heap.size, w1.heap.size, w2.heap.size, [], [], []⟩ : QL).foot w3.heap.size, w.heap.size ≤ b := by
    intro b hb
    have : b = w3.heap.size ∨ b = w.heap.size ∨ b = w1.heap.size ∨ b = w2.heap.size := by simpa [QL.foot] using hb
    omega
  have hB : Below w.heap.size w w4 := ((b1.trans (b2.mono (by omega))).trans (b3.mono (by omega))).trans (b4.mono (by omega))
  have r1 : ∀ w, (Instr.makeMap 89 none).run Try.prog w = .ok (.map (some w.heap.size)) (w.alloc (.map #[] 0)) := fun w => run_make Try.underlying89 w
  have r2 : ∀ w, (Instr.makeMap 90 none).run Try.prog w = .ok (.map (some w.heap.size)) (w.alloc (.map #[] 0)) := fun w => run_make Try.underlying90 w
  have r3 : ∀ w, (Instr.makeMap 91 none).run Try.prog w = .ok (.map (some w.heap.size)) (w.alloc (.map #[] 0)) := fun w => run_make Try.underlying91 w
  have HQ := hide hQ
  have HF := hide hF
  have HB := hide hB
  clear hQ hF hB b1 b2 b3 b4 m1 m2 m3 k4 s1 s2 s3
  go_enter Try.func27, Try.ntmps27
  go_wp2
  go_ret
  exact ⟨_, _, rfl, HQ.out, HF.out, HB.out⟩
end Qu
end Go.Proofs.Ytonmojinijpneaa
