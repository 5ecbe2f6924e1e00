/- The contracts of the chapter's Of, Late, Sum, and of the program's Late and Sum. -/
import Derived.Test.YtjmidldmhmhbnaaClockG
namespace Go.Proofs.Ytjmidldmhmhbnaa
open Go.RowKit Go.Shelf
set_option linter.unusedVariables false
set_option linter.unusedSimpArgs false

def wB (l m : List Int) : Bool := (upto (pr l m) l.length).all (fun x => decide (x.1 ≤ x.2))
theorem wB_mk {l m : List Int} (h : ∀ j < l.length, l.getD j 0 ≤ m.getD j 0) : wB l m = true := by
  unfold wB upto
  rw [List.all_map, List.all_eq_true]
  intro j hj
  simpa [pr] using h j (List.mem_range.1 hj)
theorem wB_no {l m : List Int} (k : Nat) (hk : k < l.length) (h : m.getD k 0 < l.getD k 0) : wB l m = false := by
  rw [Bool.eq_false_iff]
  intro hw
  unfold wB upto at hw
  rw [List.all_map, List.all_eq_true] at hw
  have h3 : decide ((pr l m k).1 ≤ (pr l m k).2) = true := hw k (List.mem_range.2 hk)
  exact absurd (of_decide_eq_true h3) (by show ¬ l.getD k 0 ≤ m.getD k 0; omega)
theorem wB_swap (l m : List Int) (h : l.length = m.length) : wB m l = (upto (pr l m) l.length).all (fun x => decide (x.2 ≤ x.1)) := by
  unfold wB upto
  rw [List.all_map, List.all_map, h]
  rfl
theorem cls_w (l m : List Int) (h : l.length = m.length) : cls (upto (pr l m) l.length) = if wB l m then (if wB m l then 0 else 1) else if wB m l then 2 else 3 := by
  rw [wB_swap l m h]
  rfl

set_option maxRecDepth 100000 in
set_option maxHeartbeats 1000000 in
theorem within_b (A A' : Option Addr) (l m : List Int) (cap cap' B B' : Nat) (w : World) (hr : Rd w B A l) (hr' : Rd w B' A' m) (hm : l.length ≤ 64) (hlm : l.length = m.length) :
    Calls Try.prog 30 #[.slice A l.length cap, .slice A' m.length cap'] w fun e w' => e = .returned (.bool (wB l m)) ∧ ∃ n, w' = w.drewN n := by
  have Hne := hide hlm
  have Hr := hide hr
  have Hr' := hide hr'
  clear hr hr' hlm
  go_enter Try.func30, Try.ntmps30
  go_wp2
  go_loopw [5] (fun i wr => ∃ k n : Nat, k ≤ l.length ∧ i = .int .i64 k ∧ wr = w.drewN n ∧ ∀ j < k, l.getD j 0 ≤ m.getD j 0) (fun i _ => l.length - (intOf i).toNat)
  case atStart => exact ⟨0, 0, Nat.zero_le _, rfl, rfl, fun j hj => by omega⟩
  case round =>
    obtain ⟨k, n, hk, rfl, rfl, hok⟩ := hrel
    have Hok := hide hok
    clear hok
    by_cases hlt : k < l.length
    · have hlt' : k < m.length := by have := Hne.out; omega
      obtain ⟨ad, rfl, hb, hc⟩ := rd_at Hr.out hlt
      obtain ⟨ad', rfl, hb', hc'⟩ := rd_at Hr'.out hlt'
      generalize hx : l.getD k 0 = x at hc
      generalize hy : m.getD k 0 = y at hc'
      have Hx := hide hx
      have Hy := hide hy
      clear hx hy
      by_cases hxy : y < x
      · go_wp2
        go_quiet (fail)
        go_wp2
        go_ret
        exact ⟨ret_bool (wB_no k hlt (by rw [Hx.out, Hy.out]; exact hxy)).symm, by rw [World.drewN_drewN]; exact ⟨_, rfl⟩⟩
      · have hxy' : x ≤ y := by omega
        go_wp2
        go_quiet (fail)
        go_wp2
        go_roundw
        case rel =>
          refine ⟨k + 1, _, by omega, by go_num, rfl, fun j hj => ?_⟩
          by_cases hjk : j = k
          · subst hjk; rw [Hx.out, Hy.out]; exact hxy'
          · exact Hok.out j (by omega)
        case measure => simp [intOf]; omega
    · have hge : l.length ≤ k := by omega
      go_wp2
      go_ret
      exact ⟨ret_bool (wB_mk (fun j hj => Hok.out j (by omega))).symm, _, rfl⟩

theorem ofU_w {l m : List Int} (h : may2B l m = true) : ofU l m = if wB l m then (if wB m l then 0 else 1) else if wB m l then 2 else 3 := by
  rw [← cls_w l m (may2B_yes h).1]
  simp [ofU, ofOk, h]
theorem ofE_y {l m : List Int} (h : may2B l m = true) : ofE l m = 0 := by simp [ofE, ofOk, h]
theorem of_no {l m : List Int} (h : may2B l m = false) : ofU l m = 0 ∧ ofE l m = 2 := by simp [ofU, ofE, ofOk, h]

set_option maxRecDepth 100000 in
set_option maxHeartbeats 1000000 in
theorem of_b (A A' : Option Addr) (l m : List Int) (cap cap' B B' : Nat) (w : World) (hr : Rd w B A l) (hr' : Rd w B' A' m) (hm : l.length ≤ maxLen) (hm' : m.length ≤ maxLen) :
    Calls Try.prog 10 #[.slice A l.length cap, .slice A' m.length cap'] w fun e w' => e = .returned (.tuple #[.int .i64 (ofU l m), .int .i64 (ofE l m)]) ∧ ∃ n, w' = w.drewN n := by
  have Hr := hide hr
  have Hr' := hide hr'
  clear hr hr'
  by_cases h1 : mayB l = true
  · by_cases h2 : mayB m = true
    · by_cases hl : l.length = m.length
      · have hok : may2B l m = true := by simp [may2B, h1, h2, hl]
        have h64 := (mayB_len h1).2
        have h64' := (mayB_len h2).2
        have Hl := hide hl
        have hlb : ((l.length : Int) != (m.length : Int)) = false := by simp [hl]
        have hE := ofE_y hok
        have HU := hide (ofU_w hok)
        rw [hE]
        have H1 := hide h1
        have H2 := hide h2
        clear h1 h2 hok hl hE
        go_enter Try.func10, Try.ntmps10
        go_wp2_with fail
        refine (may_b _ _ _ _ _ Hr.out hm).mono ?_
        rw [H1.out]
        rintro e w' ⟨rfl, rfl⟩
        go_wp2_with fail
        refine (may_b _ _ _ _ _ Hr'.out hm').mono ?_
        rw [H2.out]
        rintro e w' ⟨rfl, rfl⟩
        go_wp2_with fail
        refine (within_b _ _ _ _ _ _ _ _ _ Hr.out Hr'.out h64 Hl.out).mono ?_
        rintro e w' ⟨rfl, n1, rfl⟩
        go_wp2_with fail
        refine (within_b _ _ _ _ _ _ _ _ _ (Hr'.out.drewN n1) (Hr.out.drewN n1) h64' Hl.out.symm).mono ?_
        rintro e w' ⟨rfl, n2, rfl⟩
        generalize hp : wB l m = p at *
        generalize hq : wB m l = q at *
        have Hp := hide hp
        have Hq := hide hq
        clear hp hq
        cases p <;> cases q
        all_goals
          go_wp2
          go_ret2
          refine ⟨?_, _, rfl⟩
          rw [HU.out]
          rfl
      · have hok : may2B l m = false := by simp [may2B, hl]
        have hlb : ((l.length : Int) != (m.length : Int)) = true := by rw [bne_iff_ne]; omega
        obtain ⟨hU, hE⟩ := of_no hok
        rw [hU, hE]
        have H1 := hide h1
        have H2 := hide h2
        clear h1 h2 hok hl hU hE
        go_enter Try.func10, Try.ntmps10
        go_wp2_with fail
        refine (may_b _ _ _ _ _ Hr.out hm).mono ?_
        rw [H1.out]
        rintro e w' ⟨rfl, rfl⟩
        go_wp2_with fail
        refine (may_b _ _ _ _ _ Hr'.out hm').mono ?_
        rw [H2.out]
        rintro e w' ⟨rfl, rfl⟩
        go_wp2
        go_ret2
        exact ⟨rfl, 0, rfl⟩
    · have hok : may2B l m = false := by simp [may2B, show mayB m = false by simpa using h2]
      obtain ⟨hU, hE⟩ := of_no hok
      rw [hU, hE]
      have H1 := hide h1
      have H2 := hide (show mayB m = false by simpa using h2)
      clear h1 h2 hok hU hE
      go_enter Try.func10, Try.ntmps10
      go_wp2_with fail
      refine (may_b _ _ _ _ _ Hr.out hm).mono ?_
      rw [H1.out]
      rintro e w' ⟨rfl, rfl⟩
      go_wp2_with fail
      refine (may_b _ _ _ _ _ Hr'.out hm').mono ?_
      rw [H2.out]
      rintro e w' ⟨rfl, rfl⟩
      go_wp2
      go_ret2
      exact ⟨rfl, 0, rfl⟩
  · have hok : may2B l m = false := by simp [may2B, show mayB l = false by simpa using h1]
    obtain ⟨hU, hE⟩ := of_no hok
    rw [hU, hE]
    have H1 := hide (show mayB l = false by simpa using h1)
    clear h1 hok hU hE
    go_enter Try.func10, Try.ntmps10
    go_wp2_with fail
    refine (may_b _ _ _ _ _ Hr.out hm).mono ?_
    rw [H1.out]
    rintro e w' ⟨rfl, rfl⟩
    go_wp2
    go_ret2
    exact ⟨rfl, 0, rfl⟩

/-! Late -/
def lateOk (l m : List Int) (r : Int) : Bool := may2B l m && decide (0 ≤ r ∧ r < l.length)
def lateB (l m : List Int) (r : Int) : Bool := lateOk l m r && decide (l.getD r.toNat 0 < m.getD r.toNat 0)
def lateE (l m : List Int) (r : Int) : Int := if lateOk l m r then 0 else 2
theorem late_no {l m : List Int} {r : Int} (h : lateOk l m r = false) : lateB l m r = false ∧ lateE l m r = 2 := by simp [lateB, lateE, h]
theorem lateOk_no1 {l m : List Int} {r : Int} (h : may2B l m = false) : lateOk l m r = false := by simp [lateOk, h]
theorem lateOk_no2 {l m : List Int} {r : Int} (h : ¬ (0 ≤ r ∧ r < l.length)) : lateOk l m r = false := by unfold lateOk; rw [decide_eq_false h, Bool.and_false]
theorem late_yes {l m : List Int} {r : Int} (h : may2B l m = true) (h2 : 0 ≤ r ∧ r < l.length) : lateB l m r = decide (l.getD r.toNat 0 < m.getD r.toNat 0) ∧ lateE l m r = 0 := by
  have : lateOk l m r = true := by unfold lateOk; rw [decide_eq_true h2, h]; rfl
  simp [lateB, lateE, this]

set_option maxRecDepth 100000 in
set_option maxHeartbeats 1000000 in
theorem late_a (A A' : Option Addr) (l m : List Int) (cap cap' B B' : Nat) (r : Int) (w : World) (hr : Rd w B A l) (hr' : Rd w B' A' m) (hm : l.length ≤ maxLen) (hm' : m.length ≤ maxLen) :
    Calls Try.prog 11 #[.slice A l.length cap, .slice A' m.length cap', .int .i64 r] w fun e w' => e = .returned (.tuple #[.bool (lateB l m r), .int .i64 (lateE l m r)]) ∧ ∃ n, w' = w.drewN n := by
  have Hr := hide hr
  have Hr' := hide hr'
  clear hr hr'
  by_cases hok : may2B l m = true
  · by_cases h0 : 0 ≤ r ∧ r < l.length
    · obtain ⟨hB, hE⟩ := late_yes hok h0
      obtain ⟨k, rfl⟩ := Int.eq_ofNat_of_zero_le h0.1
      rw [Int.toNat_natCast] at hB
      have hk : k < l.length := by omega
      obtain ⟨hlm, hma, _⟩ := may2B_yes hok
      have h64 := (mayB_len hma).2
      have hk' : k < m.length := by omega
      obtain ⟨ad, rfl, hb, hc⟩ := rd_at Hr.out hk
      obtain ⟨ad', rfl, hb', hc'⟩ := rd_at Hr'.out hk'
      rw [hB, hE]
      have Hok := hide hok
      generalize l.getD k 0 = x at hc
      generalize m.getD k 0 = y at hc'
      clear hB hE hok h0 hlm hma
      go_enter Try.func11, Try.ntmps11
      go_wp2_with fail
      refine (may2_a _ _ _ _ _ _ _ _ _ Hr.out Hr'.out hm hm').mono ?_
      rw [Hok.out]
      rintro e w' ⟨rfl, rfl⟩
      go_wp2
      go_quiet (fail)
      go_wp2
      go_ret2
      exact ⟨rfl, _, rfl⟩
    · obtain ⟨hB, hE⟩ := late_no (lateOk_no2 (l := l) (m := m) h0)
      rw [hB, hE]
      have Hok := hide hok
      clear hok hB hE
      by_cases h1 : r < 0
      all_goals
        (try have h2 : 0 ≤ r := by omega)
        (try have h3 : (l.length : Int) ≤ r := by omega)
        clear h0
        go_enter Try.func11, Try.ntmps11
        go_wp2_with fail
        refine (may2_a _ _ _ _ _ _ _ _ _ Hr.out Hr'.out hm hm').mono ?_
        rw [Hok.out]
        rintro e w' ⟨rfl, rfl⟩
        go_wp2
        go_ret2
        exact ⟨rfl, 0, rfl⟩
  · have hno : may2B l m = false := by simpa using hok
    obtain ⟨hB, hE⟩ := late_no (lateOk_no1 (r := r) hno)
    rw [hB, hE]
    have Hok := hide hno
    clear hok hB hE hno
    go_enter Try.func11, Try.ntmps11
    go_wp2_with fail
    refine (may2_a _ _ _ _ _ _ _ _ _ Hr.out Hr'.out hm hm').mono ?_
    rw [Hok.out]
    rintro e w' ⟨rfl, rfl⟩
    go_wp2
    go_ret2
    exact ⟨rfl, 0, rfl⟩

set_option maxRecDepth 100000 in
set_option maxHeartbeats 1000000 in
theorem late_b (A A' : Option Addr) (l m : List Int) (cap cap' B B' : Nat) (r : Int) (w : World) (hr : Rd w B A l) (hr' : Rd w B' A' m) (hm : l.length ≤ maxLen) (hm' : m.length ≤ maxLen) :
    Calls Try.prog 12 #[.slice A l.length cap, .slice A' m.length cap', .int .i64 r] w fun e w' => e = .returned (.tuple #[.bool (lateB l m r), .int .i64 (lateE l m r)]) ∧ ∃ n, w' = w.drewN n := by
  have Hr := hide hr
  have Hr' := hide hr'
  clear hr hr'
  by_cases h1 : mayB l = true
  · by_cases h2 : mayB m = true
    · by_cases hl : l.length = m.length
      · have hok : may2B l m = true := by simp [may2B, h1, h2, hl]
        have hlb : ((l.length : Int) != (m.length : Int)) = false := by simp [hl]
        have h64 := (mayB_len h1).2
        by_cases h0 : 0 ≤ r ∧ r < l.length
        · obtain ⟨hB, hE⟩ := late_yes hok h0
          obtain ⟨k, rfl⟩ := Int.eq_ofNat_of_zero_le h0.1
          rw [Int.toNat_natCast] at hB
          have hk : k < l.length := by omega
          have hk' : k < m.length := by omega
          obtain ⟨ad, rfl, hb, hc⟩ := rd_at Hr.out hk
          obtain ⟨ad', rfl, hb', hc'⟩ := rd_at Hr'.out hk'
          rw [hB, hE]
          have H1 := hide h1
          have H2 := hide h2
          generalize l.getD k 0 = x at hc
          generalize m.getD k 0 = y at hc'
          clear hB hE hok h0 h1 h2 hl
          go_enter Try.func12, Try.ntmps12
          go_wp2_with fail
          refine (may_b _ _ _ _ _ Hr.out hm).mono ?_
          rw [H1.out]
          rintro e w' ⟨rfl, rfl⟩
          go_wp2_with fail
          refine (may_b _ _ _ _ _ Hr'.out hm').mono ?_
          rw [H2.out]
          rintro e w' ⟨rfl, rfl⟩
          go_wp2
          go_quiet (fail)
          go_wp2
          go_ret2
          exact ⟨rfl, _, rfl⟩
        · obtain ⟨hB, hE⟩ := late_no (lateOk_no2 (l := l) (m := m) h0)
          rw [hB, hE]
          have H1 := hide h1
          have H2 := hide h2
          clear hB hE hok h1 h2 hl
          by_cases h1 : r < 0
          all_goals
            (try have h2 : 0 ≤ r := by omega)
            (try have h3 : (l.length : Int) ≤ r := by omega)
            clear h0
            go_enter Try.func12, Try.ntmps12
            go_wp2_with fail
            refine (may_b _ _ _ _ _ Hr.out hm).mono ?_
            rw [H1.out]
            rintro e w' ⟨rfl, rfl⟩
            go_wp2_with fail
            refine (may_b _ _ _ _ _ Hr'.out hm').mono ?_
            rw [H2.out]
            rintro e w' ⟨rfl, rfl⟩
            go_wp2
            go_ret2
            exact ⟨rfl, 0, rfl⟩
      · have hok : may2B l m = false := by simp [may2B, hl]
        have hlb : ((l.length : Int) != (m.length : Int)) = true := by rw [bne_iff_ne]; omega
        obtain ⟨hB, hE⟩ := late_no (lateOk_no1 (r := r) hok)
        rw [hB, hE]
        have H1 := hide h1
        have H2 := hide h2
        clear h1 h2 hok hl hB hE
        go_enter Try.func12, Try.ntmps12
        go_wp2_with fail
        refine (may_b _ _ _ _ _ Hr.out hm).mono ?_
        rw [H1.out]
        rintro e w' ⟨rfl, rfl⟩
        go_wp2_with fail
        refine (may_b _ _ _ _ _ Hr'.out hm').mono ?_
        rw [H2.out]
        rintro e w' ⟨rfl, rfl⟩
        go_wp2
        go_ret2
        exact ⟨rfl, 0, rfl⟩
    · have hok : may2B l m = false := by simp [may2B, show mayB m = false by simpa using h2]
      obtain ⟨hB, hE⟩ := late_no (lateOk_no1 (r := r) hok)
      rw [hB, hE]
      have H1 := hide h1
      have H2 := hide (show mayB m = false by simpa using h2)
      clear h1 h2 hok hB hE
      go_enter Try.func12, Try.ntmps12
      go_wp2_with fail
      refine (may_b _ _ _ _ _ Hr.out hm).mono ?_
      rw [H1.out]
      rintro e w' ⟨rfl, rfl⟩
      go_wp2_with fail
      refine (may_b _ _ _ _ _ Hr'.out hm').mono ?_
      rw [H2.out]
      rintro e w' ⟨rfl, rfl⟩
      go_wp2
      go_ret2
      exact ⟨rfl, 0, rfl⟩
  · have hok : may2B l m = false := by simp [may2B, show mayB l = false by simpa using h1]
    obtain ⟨hB, hE⟩ := late_no (lateOk_no1 (r := r) hok)
    rw [hB, hE]
    have H1 := hide (show mayB l = false by simpa using h1)
    clear h1 hok hB hE
    go_enter Try.func12, Try.ntmps12
    go_wp2_with fail
    refine (may_b _ _ _ _ _ Hr.out hm).mono ?_
    rw [H1.out]
    rintro e w' ⟨rfl, rfl⟩
    go_wp2
    go_ret2
    exact ⟨rfl, 0, rfl⟩

/-! Sum -/
def isum (l : List Int) : Int := l.foldl (fun a b => a + b) 0
theorem isum_snoc (l : List Int) (x : Int) : isum (l ++ [x]) = isum l + x := by simp [isum]
def sumB (l : List Int) : Int := if mayB l then isum l else 0
theorem take_sum {l : List Int} (k : Nat) (hk : k < l.length) : isum (l.take (k + 1)) = isum (l.take k) + l.getD k 0 := by
  rw [List.take_succ_eq_append_getElem hk, isum_snoc, List.getD_eq_getElem?_getD, List.getElem?_eq_getElem hk]
  rfl
theorem sum_bound {l : List Int} (h : mayB l = true) (k : Nat) (hk : k ≤ l.length) : 0 ≤ isum (l.take k) ∧ isum (l.take k) ≤ 1099511627776 * (k : Int) := by
  induction k with
  | zero => simp [isum]
  | succ k ih =>
    obtain ⟨h1, h2⟩ := ih (by omega)
    obtain ⟨h3, h4⟩ := mayB_at h k (by omega)
    rw [take_sum k (by omega)]
    omega
theorem ret_int {k : IntKind} {a b : Int} (h : a = b) : Ending.returned (.int k a) = .returned (.int k b) := by rw [h]

set_option maxRecDepth 100000 in
set_option maxHeartbeats 1000000 in
theorem sum_a (A : Option Addr) (l : List Int) (cap B : Nat) (w : World) (hr : Rd w B A l) (hm : l.length ≤ maxLen) :
    Calls Try.prog 15 #[.slice A l.length cap] w fun e w' => e = .returned (.int .i64 (sumB l)) ∧ w = w' := by
  have Hr := hide hr
  clear hr
  by_cases h1 : mayB l = true
  · have hS : sumB l = isum l := by simp [sumB, h1]
    rw [hS]
    have H1 := hide h1
    have h64 := (mayB_len h1).2
    clear hS h1
    go_enter Try.func15, Try.ntmps15
    go_wp2_with fail
    refine (may_a _ _ _ _ _ Hr.out hm).mono ?_
    rw [H1.out]
    rintro e w' ⟨rfl, rfl⟩
    go_wp2
    go_loop [3, 5, 11] (fun s _ i => ∃ k : Nat, k ≤ l.length ∧ i = .int .i64 k ∧ s = .int .i64 (isum (l.take k))) (fun _ _ i => l.length - (intOf i).toNat)
    case atStart => exact ⟨0, Nat.zero_le _, rfl, rfl⟩
    case round =>
      obtain ⟨k, hk, rfl, rfl⟩ := hrel
      by_cases hlt : k < l.length
      · obtain ⟨ad, rfl, hb, hc⟩ := rd_at Hr.out hlt
        obtain ⟨hs0, hs1⟩ := sum_bound H1.out k hk
        obtain ⟨hx0, hx1⟩ := mayB_at H1.out k hlt
        have Hs := hide (take_sum k hlt)
        generalize l.getD k 0 = x at *
        generalize isum (l.take k) = s at *
        go_wp2
        go_round
        case rel => exact ⟨k + 1, by omega, by go_num, by rw [Hs.out]⟩
        case measure => simp [intOf]; omega
      · have hge : l.length ≤ k := by omega
        obtain rfl : k = l.length := by omega
        go_wp2
        go_ret
        exact ⟨ret_int (by first | rfl | rw [List.take_length]), rfl⟩
  · have hS : sumB l = 0 := by simp [sumB, h1]
    rw [hS]
    have H1 := hide (show mayB l = false by simpa using h1)
    clear hS h1
    go_enter Try.func15, Try.ntmps15
    go_wp2_with fail
    refine (may_a _ _ _ _ _ Hr.out hm).mono ?_
    rw [H1.out]
    rintro e w' ⟨rfl, rfl⟩
    go_wp2
    go_ret
    exact ⟨rfl, rfl⟩

set_option maxRecDepth 100000 in
set_option maxHeartbeats 1000000 in
theorem sum_b (A : Option Addr) (l : List Int) (cap B : Nat) (w : World) (hr : Rd w B A l) (hm : l.length ≤ maxLen) :
    Calls Try.prog 16 #[.slice A l.length cap] w fun e w' => e = .returned (.int .i64 (sumB l)) ∧ w = w' := by
  have Hr := hide hr
  clear hr
  by_cases h1 : mayB l = true
  · have hS : sumB l = isum l := by simp [sumB, h1]
    rw [hS]
    have H1 := hide h1
    have h64 := (mayB_len h1).2
    clear hS h1
    go_enter Try.func16, Try.ntmps16
    go_wp2
    go_loop [3, 4] (fun s i => ∃ k : Nat, k ≤ l.length ∧ i = .int .i64 k ∧ s = .int .i64 (isum (l.take k))) (fun _ i => l.length - (intOf i).toNat)
    case atStart => exact ⟨0, Nat.zero_le _, rfl, rfl⟩
    case round =>
      obtain ⟨k, hk, rfl, rfl⟩ := hrel
      by_cases hlt : k < l.length
      · obtain ⟨ad, rfl, hb, hc⟩ := rd_at Hr.out hlt
        obtain ⟨hs0, hs1⟩ := sum_bound H1.out k hk
        obtain ⟨hx0, hx1⟩ := mayB_at H1.out k hlt
        have Hs := hide (take_sum k hlt)
        generalize l.getD k 0 = x at *
        generalize isum (l.take k) = s at *
        go_wp2_with fail
        refine (may_b _ _ _ _ _ Hr.out hm).mono ?_
        rw [H1.out]
        rintro e w' ⟨rfl, rfl⟩
        go_wp2
        go_round
        case rel => exact ⟨k + 1, by omega, by go_num, by rw [Hs.out]⟩
        case measure => simp [intOf]; omega
      · have hge : l.length ≤ k := by omega
        obtain rfl : k = l.length := by omega
        go_wp2
        go_ret
        exact ⟨ret_int (by first | rfl | rw [List.take_length]), rfl⟩
  · have hS : sumB l = 0 := by simp [sumB, h1]
    rw [hS]
    have H1 := hide (show mayB l = false by simpa using h1)
    clear hS h1
    by_cases h0 : 0 < l.length
    · go_enter Try.func16, Try.ntmps16
      go_wp2
      go_loop [3, 4] (fun s i => i = .int .i64 0 ∧ s = .int .i64 0) (fun _ i => 0)
      case atStart => exact ⟨rfl, rfl⟩
      case round =>
        obtain ⟨rfl, rfl⟩ := hrel
        go_wp2_with fail
        refine (may_b _ _ _ _ _ Hr.out hm).mono ?_
        rw [H1.out]
        rintro e w' ⟨rfl, rfl⟩
        go_wp2
        go_ret
        exact ⟨rfl, rfl⟩
    · have h0' : l.length ≤ 0 := by omega
      go_enter Try.func16, Try.ntmps16
      go_wp2
      go_loop [3, 4] (fun s i => i = .int .i64 0 ∧ s = .int .i64 0) (fun _ i => 0)
      case atStart => exact ⟨rfl, rfl⟩
      case round =>
        obtain ⟨rfl, rfl⟩ := hrel
        go_wp2
        go_ret
        exact ⟨rfl, rfl⟩
end Go.Proofs.Ytjmidldmhmhbnaa
