/- What stands at a point: the reference's answer. -/
import Derived.Test.YtnmaclpjddafnaaRows
import Derived.Test.YtnmaclpjddafnaaSignE
namespace Go.Proofs.Ytnmaclpjddafnaa
open Go.RowKit
set_option linter.unusedVariables false
set_option linter.unusedSimpArgs false
set_option maxRecDepth 100000 in
set_option maxHeartbeats 2000000 in
theorem At_b (A : Option Addr) (cap : Nat) (l : List Ch) (rank call : Int) (w : World) (h : CRow w A l) (hl : l.length ≤ 1000) :
    Calls Try.prog 10 #[.slice A l.length cap, .int .i64 rank, .int .i64 call] w fun e w' => e = .returned (.tuple #[(atR l rank call).1.val, .bool (atR l rank call).2]) ∧ Below w.heap.size w w' := by
  have hb4 := (Below.refl w.heap.size w).alloc (Nat.le_refl _) (.cells #[.int .i64 0, .int .i64 0, .int .i64 0, .int .i64 0, .int .i64 0] 24)
  have B4 := Blk.new w 24 #[.int .i64 0, .int .i64 0, .int .i64 0, .int .i64 0, .int .i64 0]
  have HB4 := hide hb4
  have H4 := hide (h.below hb4)
  clear h
  go_enter Try.func10, Try.ntmps10
  go_wp2_with fail
  generalize w.alloc (.cells #[.int .i64 0, .int .i64 0, .int .i64 0, .int .i64 0, .int .i64 0] 24) = w4 at *
  have bfr := B4.frozen
  have f0 := bfr 0
  have f1 := bfr 1
  have f2 := bfr 2
  have f3 := bfr 3
  have f4 := bfr 4
  have d0 := B4.cell 0
  have d1 := B4.cell 1
  have d2 := B4.cell 2
  have d3 := B4.cell 3
  have d4 := B4.cell 4
  simp only [List.getElem?_toArray, List.getElem?_cons_zero, List.getElem?_cons_succ] at d0 d1 d2 d3 d4
  have HBk := hide B4
  clear B4 bfr hb4
  go_loop [8] (fun vi => ∃ i : Nat, i ≤ l.length ∧ vi = .int .i64 i ∧ Hid (∀ k (hk : k < i) (hk2 : k < l.length), atP rank call l[k] = false)) (fun vi => l.length - (intOf vi).toNat)
  case atStart => exact ⟨0, Nat.zero_le _, rfl, hide (fun k hk => absurd hk (Nat.not_lt_zero k))⟩
  case round =>
    obtain ⟨i, hi, rfl, HN⟩ := hrel
    by_cases hlt : i < l.length
    · obtain ⟨a, rfl, ha, hok, h0, h1, h2, h3, h4⟩ := H4.out.at_ hlt
      have ltI : (i : Int) < (l.length : Int) := by omega
      have HN2 : Hid (atP rank call l[i] = false → ∀ k (hk : k < i + 1) (hk2 : k < l.length), atP rank call l[k] = false) := hide fun hx k hk hk2 => by
        rcases Nat.lt_or_ge k i with h5 | h5
        · exact HN.out k h5 hk2
        · obtain rfl : k = i := by omega
          exact hx
      have EY : Hid (atP rank call l[i] = true → atR l rank call = (l[i], true)) := hide fun hx => by
        unfold atR
        rw [find_hit hlt hx fun k hk => HN.out k hk (by omega)]
      clear hok
      generalize l[i] = tk at *
      obtain ⟨r, c, f, s, v⟩ := tk
      simp only at h0 h1 h2 h3 h4
      by_cases e1 : r = rank
      · subst e1
        by_cases e2 : c = call
        · subst e2
          have E := hide (EY.out (by simp [atP]))
          go_wp2_with fail
          have K5 := set5 HBk.out (.int .i64 r) (.int .i64 c) (.int .i64 f) (.int .i64 s) (.int .i64 v)
          have HB5 := hide (below5 (g := w.heap.size) HB4.out (by omega) (.int .i64 r) (.int .i64 c) (.int .i64 f) (.int .i64 s) (.int .i64 v))
          generalize ((((w4.setCell ⟨w.heap.size, 0, none⟩ (.int .i64 r)).setCell ⟨w.heap.size, 1, none⟩ (.int .i64 c)).setCell ⟨w.heap.size, 2, none⟩ (.int .i64 f)).setCell ⟨w.heap.size, 3, none⟩ (.int .i64 s)).setCell ⟨w.heap.size, 4, none⟩ (.int .i64 v) = W5 at *
          have r0 := K5.cell 0
          have r1 := K5.cell 1
          have r2 := K5.cell 2
          have r3 := K5.cell 3
          have r4 := K5.cell 4
          simp only [List.getElem?_toArray, List.getElem?_cons_zero, List.getElem?_cons_succ] at r0 r1 r2 r3 r4
          exact bodyPost_ret (v := .tuple #[.agg #[.int .i64 r, .int .i64 c, .int .i64 f, .int .i64 s, .int .i64 v], .bool true]) (by simp [results, Try.results10, go_sem, r0, r1, r2, r3, r4]) rfl ⟨by rw [E.out]; rfl, HB5.out⟩

        · have HN3 := hide (HN2.out (by simp [atP, e2]))
          have e2' : (c == call) = false := by simpa using e2
          go_wp2_with fail
          go_round
          case rel => exact ⟨i + 1, by omega, by go_num, HN3⟩
          case measure => simp [intOf]; omega
      · have HN3 := hide (HN2.out (by simp [atP, e1]))
        have e1' : (r == rank) = false := by simpa using e1
        go_wp2_with fail
        go_round
        case rel => exact ⟨i + 1, by omega, by go_num, HN3⟩
        case measure => simp [intOf]; omega
    · have E : Hid (atR l rank call = (zeroC, false)) := hide (by unfold atR; rw [find_none fun k hk => HN.out k (by omega) hk])
      have ltI : ¬ (i : Int) < (l.length : Int) := by omega
      go_wp2_with fail
      have K5 := set5 HBk.out (.int .i64 0) (.int .i64 0) (.int .i64 0) (.int .i64 0) (.int .i64 0)
      have HB5 := hide (below5 (g := w.heap.size) HB4.out (by omega) (.int .i64 0) (.int .i64 0) (.int .i64 0) (.int .i64 0) (.int .i64 0))
      generalize ((((w4.setCell ⟨w.heap.size, 0, none⟩ (.int .i64 0)).setCell ⟨w.heap.size, 1, none⟩ (.int .i64 0)).setCell ⟨w.heap.size, 2, none⟩ (.int .i64 0)).setCell ⟨w.heap.size, 3, none⟩ (.int .i64 0)).setCell ⟨w.heap.size, 4, none⟩ (.int .i64 0) = W5 at *
      have r0 := K5.cell 0
      have r1 := K5.cell 1
      have r2 := K5.cell 2
      have r3 := K5.cell 3
      have r4 := K5.cell 4
      simp only [List.getElem?_toArray, List.getElem?_cons_zero, List.getElem?_cons_succ] at r0 r1 r2 r3 r4
      exact bodyPost_ret (v := .tuple #[.agg #[.int .i64 0, .int .i64 0, .int .i64 0, .int .i64 0, .int .i64 0], .bool false]) (by simp [results, Try.results10, go_sem, r0, r1, r2, r3, r4]) rfl ⟨by rw [E.out]; rfl, HB5.out⟩
end Go.Proofs.Ytnmaclpjddafnaa
