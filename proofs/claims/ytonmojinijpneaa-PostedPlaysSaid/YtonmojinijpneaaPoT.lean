/- Great. -/
import Derived.Test.YtonmojinijpneaaRows
import Derived.Test.YtonmojinijpneaaPoS
namespace Go.Proofs.Ytonmojinijpneaa
open Go Go.Joins Go.ChangeShapes Go.WideShapes Go.RowKit Go.Deep Go.Lib
set_option linter.unusedVariables false
set_option linter.unusedSimpArgs false
namespace Po
def big (x : Ac) : Prop := 100 < x.m.key.size ∨ 100 < x.r.key.size
instance (x : Ac) : Decidable (big x) := by unfold big; exact inferInstance
def grt (n : Nat) (F : Nat → Ac) : Bool := decide (120 < n) || (List.range n).any fun i => decide (big (F i))
theorem grt_yes {n i : Nat} {F : Nat → Ac} (h : i < n) (hb : big (F i)) : grt n F = true := by
  unfold grt
  rw [List.any_eq_true.2 ⟨i, List.mem_range.2 h, decide_eq_true hb⟩, Bool.or_true]
theorem grt_no {n : Nat} {F : Nat → Ac} (hn : ¬ 120 < n) (h : ∀ k, k < n → ¬ big (F k)) : grt n F = false := by
  unfold grt
  rw [decide_eq_false hn, Bool.false_or, List.any_eq_false]
  intro k hk
  have := h k (List.mem_range.1 hk)
  simpa using this
set_option maxRecDepth 100000 in
set_option maxHeartbeats 8000000 in
theorem Great_c {w : World} {A : Option Addr} {n : Nat} {F : Nat → Ac} (cap : Nat) (h : Acts w A n F) :
    Calls Try.prog 10 #[.slice A n cap] w fun e w' => e = .returned (.bool (grt n F)) ∧ w = w' := by
  have HF := hide h
  clear h
  by_cases hn : 120 < n
  · have nI : (120 : Int) < (n : Int) := by omega
    have E : Hid (grt n F = true) := hide (by simp [grt, hn])
    clear hn
    go_enter Try.func10, Try.ntmps10
    go_wp2_with fail
    go_ret
    exact ⟨by rw [E.out]; rfl, rfl⟩
  have nI : ¬ (120 : Int) < (n : Int) := by omega
  have HN := hide hn
  go_enter Try.func10, Try.ntmps10
  go_wp2_with fail
  go_loopw [3] (fun v3 wr => ∃ i : Nat, i ≤ n ∧ v3 = .int .i64 i ∧ w = wr ∧ Hid (∀ k, k < i → ¬ big (F k))) (fun v3 _ => n - (RowKit.intOf v3).toNat)
  case atStart => exact ⟨0, Nat.zero_le _, rfl, rfl, hide fun k hk => absurd hk (Nat.not_lt_zero k)⟩
  case round =>
    obtain ⟨i, hi, rfl, hwr, HNO⟩ := hrel
    rename World => wr
    subst hwr
    by_cases hlt : i < n
    rotate_left
    · have hltI : ¬ (i : Int) < (n : Int) := by omega
      have E : Hid (grt n F = false) := hide (grt_no hn fun k hk => HNO.out k (by omega))
      go_wp2_with fail
      go_ret
      exact ⟨by rw [E.out]; rfl, rfl⟩
    have hltI : (i : Int) < (n : Int) := by omega
    obtain ⟨a, rfl, _, _, _, hc⟩ := HF.out.cells hlt
    have c1 : w.cell? ⟨(a.add (i * 18)).block, (a.add (i * 18)).off + 1, none⟩ = some (.string (F i).m.key) := hc 0 _ rfl
    have c9 : w.cell? ⟨(a.add (i * 18)).block, (a.add (i * 18)).off + 9, none⟩ = some (.string (F i).r.key) := hc 8 _ rfl
    obtain ⟨ky, hky⟩ : ∃ z, (F i).m.key = z := ⟨_, rfl⟩
    rw [hky] at c1
    obtain ⟨kz, hkz⟩ : ∃ z, (F i).r.key = z := ⟨_, rfl⟩
    rw [hkz] at c9
    have HLT := hide hlt
    by_cases hk : 100 < ky.size
    · have kI : (100 : Int) < (ky.size : Int) := by omega
      have E : Hid (grt n F = true) := hide (grt_yes hlt (.inl (by rw [hky]; exact hk)))
      clear hlt hc hky hk hkz
      go_wp2_with fail
      go_ret
      exact ⟨by rw [E.out]; rfl, rfl⟩
    have kI : ¬ (100 : Int) < (ky.size : Int) := by omega
    by_cases hz : 100 < kz.size
    · have zI : (100 : Int) < (kz.size : Int) := by omega
      have E : Hid (grt n F = true) := hide (grt_yes hlt (.inr (by rw [hkz]; exact hz)))
      clear hlt hc hky hk hkz hz
      go_wp2_with fail
      go_ret
      exact ⟨by rw [E.out]; rfl, rfl⟩
    have zI : ¬ (100 : Int) < (kz.size : Int) := by omega
    have NB := hide (show ¬ big (F i) by
      unfold big
      rw [hky, hkz]
      omega)
    clear hlt hc hky hk hkz hz
    go_wp2_with fail
    go_roundw
    case rel => exact ⟨i + 1, HLT.out, by go_num, by first | trivial | rfl, hide fun k hk => by
      rcases Nat.lt_or_ge k i with h | h
      · exact HNO.out k h
      · obtain rfl : k = i := by omega
        exact NB.out⟩
    case measure => have := HLT.out; simp [RowKit.intOf] <;> omega
end Po
end Go.Proofs.Ytonmojinijpneaa
