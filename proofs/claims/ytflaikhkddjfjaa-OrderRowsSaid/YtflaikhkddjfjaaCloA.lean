/- The contracts of what the clock's statements call: which clocks may be, whether two rows of numbers are the same. -/
import Derived.Test.YtflaikhkddjfjaaRows
import Derived.Test.YtflaikhkddjfjaaBase
namespace Go.Proofs.Ytflaikhkddjfjaa
open Go.RowKit
set_option linter.unusedVariables false
set_option linter.unusedSimpArgs false

def ints (l : List Int) : List Value := l.map (Value.int .i64)
abbrev Rd (w : World) (B : Nat) (A : Option Addr) (l : List Int) : Prop := Reads w B 1 A l.length (ints l)
theorem ints_at (l : List Int) (k : Nat) (hk : k < l.length) : (ints l)[k]? = some (.int .i64 (l.getD k 0)) := by
  simp [ints, List.getD_eq_getElem?_getD, List.getElem?_eq_getElem hk]
theorem rd_at {w : World} {B k : Nat} {A : Option Addr} {l : List Int} (h : Rd w B A l) (hk : k < l.length) :
    ∃ ad, A = some ad ∧ ad.block < B ∧ w.cell? (ad.add k) = some (.int .i64 (l.getD k 0)) := by
  obtain ⟨ad, u, h1, h2, h3, h4⟩ := h.at_ hk
  rw [ints_at l k hk] at h3
  injection h3 with h3
  exact ⟨ad, h1, h2, by rw [h4, h3]⟩
theorem cell_lt {w : World} {a : Addr} {v : Value} (h : w.cell? a = some v) : a.block < w.heap.size := by
  rcases Nat.lt_or_ge a.block w.heap.size with hl | hl
  · exact hl
  · simp [World.cell?, Array.getElem?_eq_none hl] at h
theorem rd_isRow {w : World} {a : Option Addr} {len cap : Nat} {zs : List Int} (h : IsRow .i64 w a len cap zs) :
    Rd w w.heap.size a (zs.take len) ∧ (zs.take len).length = len ∧ len ≤ maxLen ∧ ∀ n ∈ zs.take len, (Lit.int .i64 n).wf = true := by
  rcases h with ⟨rfl, rfl, rfl, rfl⟩ | ⟨x, rfl, hl, hm, hz, hc, hwz⟩
  · exact ⟨⟨by simp [ints], fun h => by simp at h⟩, rfl, Nat.zero_le _, by simp⟩
  · have hlen : (zs.take len).length = len := by simp; omega
    refine ⟨⟨by simp [ints], fun hp => ⟨x, rfl, by have := cell_lt (hc 0 (by omega)); rwa [block_of_add] at this, fun j u hu => ?_⟩⟩, hlen, by omega, fun n hn => hwz n (List.mem_of_mem_take hn)⟩
    have hj : j < (zs.take len).length := by
      have := (List.getElem?_eq_some_iff.1 hu).1
      simpa [ints] using this
    rw [ints_at _ j hj] at hu
    injection hu with hu
    subst hu
    rw [hc j (by omega)]
    rw [List.getD_eq_getElem?_getD, List.getD_eq_getElem?_getD, List.getElem?_take, if_pos (by omega)]

def okB (n : Int) : Bool := decide (0 ≤ n ∧ n ≤ 1099511627776)
def mayB (l : List Int) : Bool := decide (1 ≤ l.length ∧ l.length ≤ 64) && l.all okB
theorem mayB_len {l : List Int} (h : mayB l = true) : 1 ≤ l.length ∧ l.length ≤ 64 := by
  simp [mayB] at h; exact h.1
theorem mayB_at {l : List Int} (h : mayB l = true) (k : Nat) (hk : k < l.length) : 0 ≤ l.getD k 0 ∧ l.getD k 0 ≤ 1099511627776 := by
  simp [mayB] at h
  have := h.2 _ (List.getElem_mem hk)
  simpa [okB, List.getD_eq_getElem?_getD, List.getElem?_eq_getElem hk] using this
theorem mayB_mk {l : List Int} (h1 : 1 ≤ l.length) (h2 : l.length ≤ 64) (h : ∀ j < l.length, okB (l.getD j 0) = true) : mayB l = true := by
  simp [mayB]
  refine ⟨⟨h1, h2⟩, fun x hx => ?_⟩
  obtain ⟨j, hj, rfl⟩ := List.getElem_of_mem hx
  simpa [List.getD_eq_getElem?_getD, List.getElem?_eq_getElem hj] using h j hj
theorem mayB_no {l : List Int} (k : Nat) (hk : k < l.length) (h : okB (l.getD k 0) = false) : mayB l = false := by
  rw [Bool.eq_false_iff]
  intro hm
  unfold okB at h
  rw [decide_eq_false_iff_not] at h
  exact h (mayB_at hm k hk)
theorem mayB_short {l : List Int} (h : l.length < 1 ∨ 64 < l.length) : mayB l = false := by
  rw [Bool.eq_false_iff]
  intro hm
  have := mayB_len hm
  omega
theorem ret_bool {a b : Bool} (h : a = b) : Ending.returned (.bool a) = .returned (.bool b) := by rw [h]

set_option maxRecDepth 100000 in
set_option maxHeartbeats 1000000 in
/-- clock.May -/
theorem may_a (A : Option Addr) (l : List Int) (cap B : Nat) (w : World) (hr : Rd w B A l) (hm : l.length ≤ maxLen) :
    Calls Try.prog 46 #[.slice A l.length cap] w fun e w' => e = .returned (.bool (mayB l)) ∧ w = w' := by
  unfold maxLen at hm
  by_cases h1 : l.length < 1
  · have Hm := hide (mayB_short (l := l) (.inl h1))
    go_enter Try.func46, Try.ntmps46
    go_wp2
    go_ret
    exact ⟨ret_bool Hm.out.symm, rfl⟩
  by_cases h2 : 64 < l.length
  · have Hm := hide (mayB_short (l := l) (.inr h2))
    go_enter Try.func46, Try.ntmps46
    go_wp2
    go_ret
    exact ⟨ret_bool Hm.out.symm, rfl⟩
  have h1' : 1 ≤ l.length := by omega
  have h2' : l.length ≤ 64 := by omega
  have Hr := hide hr
  clear hr
  go_enter Try.func46, Try.ntmps46
  go_wp2
  go_loop [4, 15] (fun n i => ∃ k : Nat, k ≤ l.length ∧ i = .int .i64 k ∧ ∀ j < k, okB (l.getD j 0) = true) (fun _ i => l.length - (intOf i).toNat)
  case atStart => exact ⟨0, Nat.zero_le _, rfl, fun j hj => by omega⟩
  case round =>
    obtain ⟨k, hk, rfl, hok⟩ := hrel
    have Hok := hide hok
    clear hok
    by_cases hlt : k < l.length
    · obtain ⟨ad, rfl, hb, hc⟩ := rd_at Hr.out hlt
      generalize hx : l.getD k 0 = x at hc
      have Hx := hide hx
      clear hx
      by_cases hx0 : x < 0
      · go_wp2
        go_ret
        exact ⟨ret_bool (mayB_no k hlt (by rw [Hx.out]; simp [okB]; omega)).symm, rfl⟩
      by_cases hx1 : 1099511627776 < x
      · go_wp2
        go_ret
        exact ⟨ret_bool (mayB_no k hlt (by rw [Hx.out]; simp [okB]; omega)).symm, rfl⟩
      have hx0' : 0 ≤ x := by omega
      have hx1' : x ≤ 1099511627776 := by omega
      go_wp2
      go_round
      case rel =>
        refine ⟨k + 1, by omega, by go_num, fun j hj => ?_⟩
        by_cases hjk : j = k
        · subst hjk; rw [Hx.out]; simp [okB]; omega
        · exact Hok.out j (by omega)
      case measure => simp [intOf]; omega
    · have hge : l.length ≤ k := by omega
      go_wp2
      go_ret
      exact ⟨ret_bool (mayB_mk h1' h2' (fun j hj => Hok.out j (by omega))).symm, rfl⟩

def sameB (l m : List Int) : Bool := decide (l = m)
theorem sameB_len {l m : List Int} (h : l.length ≠ m.length) : sameB l m = false := by
  unfold sameB
  rw [decide_eq_false_iff_not]
  exact fun e => h (by rw [e])
theorem sameB_at {l m : List Int} (k : Nat) (h : l.getD k 0 ≠ m.getD k 0) : sameB l m = false := by
  unfold sameB
  rw [decide_eq_false_iff_not]
  exact fun e => h (by rw [e])
theorem sameB_mk {l m : List Int} (hl : l.length = m.length) (h : ∀ j < l.length, l.getD j 0 = m.getD j 0) : sameB l m = true := by
  unfold sameB
  rw [decide_eq_true_eq]
  refine List.ext_getElem hl fun j h1 h2 => ?_
  have := h j h1
  simpa [List.getD_eq_getElem?_getD, List.getElem?_eq_getElem h1, List.getElem?_eq_getElem h2] using this

set_option maxRecDepth 100000 in
set_option maxHeartbeats 1000000 in
/-- dispatcherref11.Ints: the same numbers; nothing is written. -/
theorem ints_same (A A' : Option Addr) (l m : List Int) (cap cap' B B' : Nat) (w : World) (hr : Rd w B A l) (hr' : Rd w B' A' m) (hm : l.length ≤ maxLen) (hm' : m.length ≤ maxLen) :
    Calls Try.prog 13 #[.slice A l.length cap, .slice A' m.length cap'] w fun e w' => e = .returned (.bool (sameB l m)) ∧ ∃ n, w' = w.drewN n := by
  unfold maxLen at hm hm'
  by_cases hne : l.length = m.length
  · have hne' : ((l.length : Int) != (m.length : Int)) = false := by simp [hne]
    have Hne := hide hne
    have Hr := hide hr
    have Hr' := hide hr'
    clear hr hr' hne
    go_enter Try.func13, Try.ntmps13
    go_wp2
    go_loopw [5] (fun i wr => ∃ k n : Nat, k ≤ l.length ∧ i = .int .i64 k ∧ wr = w.drewN n ∧ ∀ j < k, l.getD j 0 = m.getD j 0) (fun i _ => l.length - (intOf i).toNat)
    case atStart => exact ⟨0, 0, Nat.zero_le _, rfl, rfl, fun j hj => by omega⟩
    case round =>
      obtain ⟨k, n, hk, rfl, rfl, hok⟩ := hrel
      have Hok := hide hok
      clear hok
      by_cases hlt : k < l.length
      · have hlt' : k < m.length := by have := Hne.out; omega
        obtain ⟨ad, rfl, hb, hc⟩ := rd_at Hr.out hlt
        obtain ⟨ad', rfl, hb', hc'⟩ := rd_at Hr'.out hlt'
        generalize hx : l.getD k 0 = x at hc
        generalize hy : m.getD k 0 = y at hc'
        have Hx := hide hx
        have Hy := hide hy
        clear hx hy
        by_cases hxy : x = y
        · have hxy' : (x != y) = false := by simp [hxy]
          have Hxy := hide hxy
          clear hxy
          go_wp2
          go_quiet (fail)
          go_wp2
          go_roundw
          case rel =>
            refine ⟨k + 1, _, by omega, by go_num, rfl, fun j hj => ?_⟩
            by_cases hjk : j = k
            · subst hjk; rw [Hx.out, Hy.out]; exact Hxy.out
            · exact Hok.out j (by omega)
          case measure => simp [intOf]; omega
        · have hxy' : (x != y) = true := by simp [hxy]
          go_wp2
          go_quiet (fail)
          go_wp2
          go_ret
          exact ⟨ret_bool (sameB_at k (by rw [Hx.out, Hy.out]; exact hxy)).symm, by rw [World.drewN_drewN]; exact ⟨_, rfl⟩⟩
      · have hge : l.length ≤ k := by omega
        go_wp2
        go_ret
        exact ⟨ret_bool (sameB_mk Hne.out (fun j hj => Hok.out j (by omega))).symm, _, rfl⟩
  · have hne' : ((l.length : Int) != (m.length : Int)) = true := by
      rw [bne_iff_ne]; omega
    have Hs := hide (sameB_len hne)
    clear hne
    go_enter Try.func13, Try.ntmps13
    go_wp2
    go_ret
    exact ⟨ret_bool Hs.out.symm, 0, rfl⟩
end Go.Proofs.Ytflaikhkddjfjaa
