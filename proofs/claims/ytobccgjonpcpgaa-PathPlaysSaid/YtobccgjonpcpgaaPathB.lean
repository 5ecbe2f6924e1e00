/- Whether a point may be: the reference's May. -/
import Derived.Test.YtobccgjonpcpgaaRows
import Derived.Test.YtobccgjonpcpgaaPathA
import Derived.Deep.QuietTactic
import Derived.BigQuiet
namespace Go.Proofs.Ytobccgjonpcpgaa
open Go Go.RowKit
set_option linter.unusedVariables false
set_option linter.unusedSimpArgs false
theorem binop_eqCh (x y : Ch) (w : World) : (binOp .eql 43 x.val y.val).run Try.prog w = .ok (.bool (decide (x = y))) w := by
  have := run_eqCh x y w
  unfold Op.equal Op.maxDepth at this
  unfold Ch.val at this ⊢
  rw [run_eql_struct, this]
  rfl
namespace Pth
set_option maxRecDepth 100000 in
set_option maxHeartbeats 8000000 in
theorem May_b (r c : Int) (A : Option Addr) (cap : Nat) (l : List Ch) (w : World) (h : CRow w A l) (hl : l.length ≤ 1000) :
    Calls Try.prog 19 #[.agg #[.int .i64 r, .int .i64 c, .slice A l.length cap]] w fun e w' => e = .returned (.bool (decide (mayV r c l))) ∧ Below w.heap.size w w' := by
  have bk := Blk.new w 34 #[.int .i64 r, .int .i64 c, .slice A l.length cap]
  have hb1 := (Below.refl w.heap.size w).alloc (Nat.le_refl _) (.cells #[.int .i64 r, .int .i64 c, .slice A l.length cap] 34)
  obtain ⟨W1, hW1⟩ : ∃ W1, w.alloc (.cells #[.int .i64 r, .int .i64 c, .slice A l.length cap] 34) = W1 := ⟨_, rfl⟩
  rw [hW1] at bk hb1
  have HB1 := hide hb1
  have BK := hide bk
  have H := hide h
  have HL := hide hl
  have NR := hide (fun k (hk : k < l.length) hz => @not_range r c l k hk hz)
  have NT := hide (fun k (hk : k < l.length) hz => @not_twice r c l k hk hz)
  have YES : Hid (okV r c (l.take l.length) → decide (mayV r c l) = decide ((0 : Int) < (l.length : Int))) := hide fun ho => by
    rw [List.take_length] at ho
    by_cases h0 : 0 < l.length
    · rw [decide_eq_true (show mayV r c l from ⟨h0, ho⟩), decide_eq_true (show (0 : Int) < (l.length : Int) by omega)]
    · rw [decide_eq_false (show ¬ mayV r c l from fun hm => h0 hm.1), decide_eq_false (show ¬ (0 : Int) < (l.length : Int) by omega)]
  have NO : Hid (¬ mayV r c l → decide (mayV r c l) = false) := hide fun hn => decide_eq_false hn
  generalize decide (mayV r c l) = res at *
  clear bk hb1 h
  go_enter Try.func19, Try.ntmps19
  go_wp2_with fail
  go_loopw [3] (fun vi wr => ∃ (k : Nat), k ≤ l.length ∧ vi = .int .i64 k ∧ Hid (okV r c (l.take k)) ∧ Hid (Below W1.heap.size W1 wr)) (fun vi _ => l.length - (intOf vi).toNat)
  case atStart => exact ⟨0, by omega, rfl, hide (okV_nil r c), hide (Below.refl _ _)⟩
  case round =>
    obtain ⟨wo, rfl⟩ : ∃ wo, wo = wr := ⟨wr, rfl⟩
    obtain ⟨k, hk, rfl, HO, HBr⟩ := hrel
    have HBw := hide (HB1.out.trans (HBr.out.mono HB1.out.size))
    have bko := BK.out.below HBr.out BK.out.lt
    have p0 : wo.cell? ⟨w.heap.size, 0, none⟩ = some (.int .i64 r) := bko.cell 0
    have p1 : wo.cell? ⟨w.heap.size, 1, none⟩ = some (.int .i64 c) := bko.cell 1
    have p2 : wo.cell? ⟨w.heap.size, 2, none⟩ = some (.slice A l.length cap) := bko.cell 2
    have BKO := hide bko
    clear bko
    by_cases hlt : k < l.length
    rotate_left
    · have hk2 : k = l.length := by omega
      have hltI : ¬ (k : Int) < (l.length : Int) := by omega
      have HO2 := HO.out
      rw [hk2] at HO2
      have R := YES.out HO2
      have RR := hide R
      clear HO2 hk2 R
      go_wp2_with fail
      go_ret
      exact ⟨by simp [RR.out], HBw.out⟩
    have hltI : (k : Int) < (l.length : Int) := by omega
    obtain ⟨a, rfl, ha, hc⟩ := (H.out.below HBw.out).2 (by omega)
    obtain ⟨_, c0, c1, c2, c3, c4⟩ := hc k hlt
    have HC := hide (fun j (hj : j < l.length) => (hc j hj).2)
    have HA := hide ha
    clear hc ha
    have NRk := hide (NR.out k hlt)
    have NTk := hide (NT.out k hlt)
    have TSk := hide (take_snoc l k hlt)
    have XK := hide (show ∀ m (hm : m < k), (l[m]'(by omega)) = l[k] → l[k] ∈ l.take k from fun m hm e => by
      rw [← e]
      have : (l.take k)[m]'(by rw [List.length_take]; omega) = (l[m]'(by omega)) := List.getElem_take
      rw [← this]
      exact List.getElem_mem _)
    have XN := hide (show (∀ m (hm : m < k), (l[m]'(by omega)) ≠ l[k]) → ¬ l[k] ∈ l.take k from fun hn hm => by
      obtain ⟨m, hm1, hm2⟩ := List.getElem_of_mem hm
      have h2 : m < k := by rw [List.length_take] at hm1; omega
      refine hn m h2 ?_
      rw [← hm2, List.getElem_take])
    have XE : ∃ x, l[k] = x := ⟨_, rfl⟩
    obtain ⟨x, hx⟩ := XE
    rw [hx] at c0 c1 c2 c3 c4 NRk NTk TSk
    have HX := hide hx
    clear hx
    obtain ⟨xr, xc, xf, xs, xv⟩ := x
    simp only at c0 c1 c2 c3 c4 NRk
    by_cases h0 : xr = r
    rotate_left
    · have R : res = false := NO.out (NRk.out fun h => h0 h.1)
      subst R
      have h0' : (xr == r) = false := by simpa using h0
      go_wp2_with fail
      go_quiet (fail)
      go_wp2_with fail
      go_ret
      exact ⟨rfl, below_drewN HBw.out _⟩
    subst h0
    by_cases h1 : xc = c
    rotate_left
    · have R : res = false := NO.out (NRk.out fun h => h1 h.2)
      subst R
      have h1' : (xc == c) = false := by simpa using h1
      go_wp2_with fail
      go_quiet (fail)
      go_wp2_with fail
      go_ret
      exact ⟨rfl, below_drewN HBw.out _⟩
    subst h1
    go_wp2_with fail
    go_quiet (fail)
    go_wp2_with fail
    go_loopw [4] (fun vj ws => ∃ (m : Nat), m ≤ k ∧ vj = .int .i64 m ∧ Hid (∀ j (hj : j < m) (hjl : j < l.length), l[j] ≠ (⟨xr, xc, xf, xs, xv⟩ : Ch)) ∧ Hid (Below wo.heap.size wo ws)) (fun vj _ => k - (intOf vj).toNat)
    case atStart => exact ⟨0, by omega, rfl, hide (fun j hj => absurd hj (Nat.not_lt_zero j)), hide (below_drewN (Below.refl wo.heap.size wo) _)⟩
    case round =>
      obtain ⟨m, hm, rfl, HN, HBs⟩ := hrel
      have hbs := HBs.out
      have bks := BKO.out.below hbs BKO.out.lt
      have p2s : wr.cell? ⟨w.heap.size, 2, none⟩ = some (.slice (some a) l.length cap) := bks.cell 2
      have ha' : ∀ j, (a.add (j * 5)).block < wo.heap.size := fun j => by rw [block_of_add]; exact HA.out
      have e0 := (hbs.cell (ha' k)).trans c0
      have e1 := (hbs.cell (p := ⟨_, _, none⟩) (ha' k)).trans c1
      have e2 := (hbs.cell (p := ⟨_, _, none⟩) (ha' k)).trans c2
      have e3 := (hbs.cell (p := ⟨_, _, none⟩) (ha' k)).trans c3
      have e4 := (hbs.cell (p := ⟨_, _, none⟩) (ha' k)).trans c4
      by_cases hmk : m < k
      rotate_left
      · have hmk2 : m = k := by omega
        have hmI : ¬ (m : Int) < (k : Int) := by omega
        have HO2 : Hid (okV xr xc (l.take (k + 1))) := hide (by
          rw [TSk.out]
          refine okV_snoc HO.out ⟨rfl, rfl⟩ ?_
          rw [← HX.out]
          exact XN.out fun j hj => by rw [HX.out]; exact HN.out j (by omega) (by omega))
        have HB2 := hide (HBr.out.trans (hbs.mono HBr.out.size))
        have hl := HL.out
        clear hbs bks ha' e0 e1 e2 e3 e4 c0 c1 c2 c3 c4 hmk2
        go_wp2_with fail
        go_roundw
        case rel => exact ⟨k + 1, by omega, by go_num, HO2, HB2⟩
        case measure => simp [intOf]; omega
      · have hmI : (m : Int) < (k : Int) := by omega
        have hmlI : (m : Int) < (l.length : Int) := by omega
        have hml : m < l.length := by omega
        obtain ⟨d0, d1, d2, d3, d4⟩ := HC.out m hml
        have d0 := (hbs.cell (ha' m)).trans d0
        have d1 := (hbs.cell (p := ⟨_, _, none⟩) (ha' m)).trans d1
        have d2 := (hbs.cell (p := ⟨_, _, none⟩) (ha' m)).trans d2
        have d3 := (hbs.cell (p := ⟨_, _, none⟩) (ha' m)).trans d3
        have d4 := (hbs.cell (p := ⟨_, _, none⟩) (ha' m)).trans d4
        have XKm := hide (XK.out m hmk)
        have YE : ∃ y, l[m] = y := ⟨_, rfl⟩
        obtain ⟨y, hy⟩ := YE
        rw [hy] at d0 d1 d2 d3 d4 XKm
        have HY := hide hy
        clear hy
        obtain ⟨yr, yc, yf, ys, yv⟩ := y
        simp only at d0 d1 d2 d3 d4
        have HNB := hide (HBw.out.trans (hbs.mono HBw.out.size))
        have EQ := fun (w' : World) => binop_eqCh ⟨yr, yc, yf, ys, yv⟩ ⟨xr, xc, xf, xs, xv⟩ w'
        simp only [Ch.val] at EQ
        clear hbs bks ha' c0 c1 c2 c3 c4
        by_cases heq : (⟨yr, yc, yf, ys, yv⟩ : Ch) = ⟨xr, xc, xf, xs, xv⟩
        · have R : res = false := NO.out (NTk.out (by rw [← HX.out]; exact XKm.out (heq.trans HX.out.symm)))
          subst R
          rw [decide_eq_true heq] at EQ
          have HEQ := hide heq
          clear heq
          go_wp2_with fail
          go_quiet (fail)
          go_wp2_with fail
          go_ret
          exact ⟨rfl, below_drewN HNB.out _⟩
        · rw [decide_eq_false heq] at EQ
          have HN2 : Hid (∀ j (hj : j < m + 1) (hjl : j < l.length), l[j] ≠ (⟨xr, xc, xf, xs, xv⟩ : Ch)) := hide fun j hj hjl => by
            by_cases e : j = m
            · subst e
              rw [HY.out]
              exact heq
            · exact HN.out j (by omega) hjl
          have HEQ := hide heq
          have hl := HL.out
          clear heq
          go_wp2_with fail
          go_quiet (fail)
          go_wp2_with fail
          go_roundw
          case rel => exact ⟨m + 1, by omega, by go_num, HN2, hide (below_drewN HBs.out _)⟩
          case measure => simp [intOf]; omega
end Pth
end Go.Proofs.Ytobccgjonpcpgaa
