/- What the statements of the requests reckon with: has, first, without, Great; the acts that come in. -/
import Derived.Test.YtiggmieoldjhnaaRows
import Derived.Test.YtiggmieoldjhnaaReqJ
import Derived.Deep.RegionWith
namespace Go.Proofs.Ytiggmieoldjhnaa
open Go Go.RowKit Go.Proofs.Ytiggmieoldjhnaa.Grp Go.Deep
set_option linter.unusedVariables false
set_option linter.unusedSimpArgs false
namespace Req
theorem mem_at {l : List Int} {x : Int} (h : x ∈ l) : ∃ m, m < l.length ∧ l.getD m 0 = x := by
  obtain ⟨i, hi, e⟩ := List.getElem_of_mem h
  refine ⟨i, hi, ?_⟩
  rw [List.getD_eq_getElem?_getD, List.getElem?_eq_getElem hi]
  exact e
set_option maxHeartbeats 2000000 in
theorem has_c (A : Option Addr) (cap : Nat) (l : List Int) (x : Int) (w : World) (hr : NRow w A l) (hl : l.length ≤ 100000) :
    Calls Try.prog 17 #[.slice A l.length cap, .int .i64 x] w fun e w' => e = .returned (.bool (decide (x ∈ l))) ∧ w = w' := by
  have HR := hide hr
  have YES := hide (fun h : x ∈ l => decide_eq_true h)
  have NO := hide (fun h : ∀ m, m < l.length → l.getD m 0 ≠ x => decide_eq_false (p := x ∈ l) fun hm => by
    obtain ⟨m, hm1, hm2⟩ := mem_at hm
    exact h m hm1 hm2)
  clear hr
  generalize decide (x ∈ l) = res at *
  go_enter Try.func17, Try.ntmps17
  go_wp2_with fail
  go_loop [5] (fun vi => ∃ i : Nat, i ≤ l.length ∧ vi = .int .i64 i ∧ Hid (∀ m, m < i → l.getD m 0 ≠ x)) (fun vi => l.length - (RowKit.intOf vi).toNat)
  case atStart => exact ⟨0, Nat.zero_le _, rfl, hide (fun m hm => absurd hm (Nat.not_lt_zero m))⟩
  case round =>
    obtain ⟨i, hi, rfl, HN⟩ := hrel
    by_cases hlt : i < l.length
    rotate_left
    · have hltI : ¬ (i : Int) < (l.length : Int) := by omega
      have R : res = false := NO.out fun m hm => HN.out m (by omega)
      subst R
      go_wp2_with fail
      go_ret
      exact ⟨rfl, rfl⟩
    have hltI : (i : Int) < (l.length : Int) := by omega
    obtain ⟨ad, rfl, had, hcd⟩ := HR.out (by omega)
    have hcx := hcd i hlt
    have hmx := Grp.getD_mem hlt
    obtain ⟨z, hz⟩ : ∃ z, l.getD i 0 = z := ⟨_, rfl⟩
    rw [hz] at hcx hmx
    have HMX := hide hmx
    have HZ := hide hz
    clear hcd hz hmx
    by_cases hzx : z = x
    · subst hzx
      have R : res = true := YES.out HMX.out
      subst R
      have e1 : (z == z) = true := by simp
      go_wp2_with fail
      go_ret
      exact ⟨rfl, rfl⟩
    · have e1 : (z == x) = false := by rw [beq_eq_false_iff_ne]; exact hzx
      have HN2 := hide (fun m (hm : m < i + 1) => show l.getD m 0 ≠ x from by
        rcases Nat.lt_or_ge m i with h9 | h9
        · exact HN.out m h9
        · obtain rfl : m = i := by omega
          rw [HZ.out]; exact hzx)
      clear hzx
      go_wp2_with fail
      go_round
      case rel => exact ⟨i + 1, by omega, by go_num, HN2⟩
      case measure => simp [RowKit.intOf] <;> omega
def firstN (l : List Int) : Int := if l.length = 0 then -1 else l.getD 0 0
theorem first_c (A : Option Addr) (cap : Nat) (l : List Int) (w : World) (hr : NRow w A l) :
    Calls Try.prog 15 #[.slice A l.length cap] w fun e w' => e = .returned (.int .i64 (firstN l)) ∧ w = w' := by
  by_cases h0 : l.length = 0
  · have E : firstN l = -1 := if_pos h0
    rw [E, h0]
    clear E h0 hr
    go_enter Try.func15, Try.ntmps15
    go_wp2_with fail
    exact bodyPost_ret (v := .int .i64 (-1)) (by simp [results, Try.results15, go_sem]) rfl ⟨rfl, rfl⟩
  · have E : firstN l = l.getD 0 0 := if_neg h0
    rw [E]
    obtain ⟨a, rfl, _, hc⟩ := hr (by omega)
    have c0 : w.cell? a = some (.int .i64 (l.getD 0 0)) := by have h9 := hc 0 (by omega); simpa [Addr.add] using h9
    have e1 : ((l.length : Int) == 0) = false := by rw [beq_eq_false_iff_ne]; omega
    have h1 : (0 : Int) < (l.length : Int) := by omega
    have h2 : ¬ (l.length : Int) = 0 := by omega
    clear hc E
    generalize l.getD 0 0 = z at *
    go_enter Try.func15, Try.ntmps15
    go_wp2_with fail
    go_ret
    exact ⟨rfl, rfl⟩
def withoutL (l some_ : List Int) : List Int := l.filter fun x => !decide (x ∈ some_)
theorem withoutL_snoc (l some_ : List Int) (x : Int) : withoutL (l ++ [x]) some_ = withoutL l some_ ++ (if x ∈ some_ then [] else [x]) := by
  unfold withoutL
  rw [List.filter_append]
  congr 1
  by_cases h : x ∈ some_
  · simp [h]
  · simp [h]
theorem withoutL_len (l some_ : List Int) : (withoutL l some_).length ≤ l.length := List.length_filter_le _ _
set_option maxHeartbeats 4000000 in
theorem without_c (A S : Option Addr) (ca cs : Nat) (l ss : List Int) (w : World) (hr : NRow w A l) (hs : NRow w S ss) (hl : l.length ≤ 1000) (hls : ss.length ≤ 1000) :
    Calls Try.prog 12 #[.slice A l.length ca, .slice S ss.length cs] w fun e w' => ∃ A' c', e = .returned (.slice A' (withoutL l ss).length c') ∧ w'.ownsRow w.heap.size 3 1 (.slice A' (withoutL l ss).length c') (withoutL l ss).length (ints (withoutL l ss)) ∧ Below w.heap.size w w' := by
  have HR := hide hr
  have HS := hide hs
  clear hr hs
  go_enter Try.func12, Try.ntmps12
  go_wp2_with fail
  go_loopw [5, 6] (fun vr vi wr => ∃ i : Nat, i ≤ l.length ∧ vi = .int .i64 i ∧ ∃ A' c', vr = .slice A' (withoutL (l.take i) ss).length c' ∧ Hid (wr.ownsRow w.heap.size 3 1 (.slice A' (withoutL (l.take i) ss).length c') (withoutL (l.take i) ss).length (ints (withoutL (l.take i) ss))) ∧ Hid (Below w.heap.size w wr)) (fun vr vi _ => l.length - (RowKit.intOf vi).toNat)
  case atStart => exact ⟨0, Nat.zero_le _, rfl, none, 0, rfl, hide ⟨rfl, .inl ⟨rfl, rfl⟩⟩, hide (Below.refl _ _)⟩
  case round =>
    obtain ⟨i, hi, rfl, A', c', rfl, HO, HB⟩ := hrel
    rename World => wr
    by_cases hlt : i < l.length
    rotate_left
    · have hltI : ¬ (i : Int) < (l.length : Int) := by omega
      have hT : l.take i = l := List.take_of_length_le (by omega)
      rw [hT] at HO ⊢
      clear hT
      go_wp2_with fail
      go_ret
      exact ⟨A', c', rfl, HO.out, HB.out⟩
    have hltI : (i : Int) < (l.length : Int) := by omega
    obtain ⟨ad, rfl, had, hcd⟩ := HR.out.below HB.out (by omega)
    have hcx := hcd i hlt
    have TK := withoutL_snoc (l.take i) ss (l.getD i 0)
    rw [← Grp.take_snoc l i hlt] at TK
    have HL := hide (Nat.le_trans (withoutL_len (l.take i) ss) (by rw [List.length_take]; omega : (l.take i).length ≤ 1000))
    obtain ⟨x, hx⟩ : ∃ x, l.getD i 0 = x := ⟨_, rfl⟩
    rw [hx] at hcx TK
    have HC := hide (has_c S cs ss x wr (HS.out.below HB.out) (by omega))
    clear hcd hx
    obtain ⟨row, hrow⟩ : ∃ z, withoutL (l.take i) ss = z := ⟨_, rfl⟩
    rw [hrow] at TK HL HO
    rw [hrow]
    clear hrow
    by_cases hm : x ∈ ss
    · rw [decide_eq_true hm] at HC
      rw [if_pos hm, List.append_nil] at TK
      have HT := hide TK
      clear TK hm
      go_wp2_with fail
      refine HC.out.mono ?_
      rintro e w' ⟨rfl, rfl⟩
      go_wp2_with fail
      go_roundw
      case rel => exact ⟨i + 1, by omega, by go_num, A', c', by rw [HT.out], hide (by rw [HT.out]; exact HO.out), HB⟩
      case measure => simp [RowKit.intOf] <;> omega
    · rw [decide_eq_false hm] at HC
      rw [if_neg hm] at TK
      have HT := hide TK
      obtain ⟨A1, c1, w1, hrun, hown, hbel, _⟩ := push_int wr w.heap.size A' c' row.length row x rfl HO.out HB.out.size (by have := HL.out; omega)
      have RUN := hide hrun
      have HO1 := hide hown
      have HB1 := hide (HB.out.trans hbel)
      clear TK hm hrun hown hbel
      go_wp2_with fail
      refine HC.out.mono ?_
      rintro e w' ⟨rfl, rfl⟩
      go_wp2_with (at_builtin; refine Lib.wpList_append_run _ rfl _ _ 27 27 rfl _ _ rfl rfl _ _ RUN.out ?_)
      go_roundw
      case rel => exact ⟨i + 1, by omega, by go_num, A1, c1, by rw [HT.out, List.length_append, List.length_singleton], hide (by rw [HT.out, List.length_append, List.length_singleton]; exact HO1.out), HB1⟩
      case measure => simp [RowKit.intOf] <;> omega
end Req
end Go.Proofs.Ytiggmieoldjhnaa
