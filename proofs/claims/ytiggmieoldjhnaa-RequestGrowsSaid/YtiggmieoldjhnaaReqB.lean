/- Rows of numbers that are read; whether two are the same. (Of the texts of the group layer.) -/
import Derived.Test.YtiggmieoldjhnaaRows
import Derived.Test.YtiggmieoldjhnaaBase
import Derived.Test.YtiggmieoldjhnaaStructs
import Derived.LoopN
import Derived.Deep.CutRange
namespace Go.Proofs.Ytiggmieoldjhnaa
open Go.Joins Go.ChangeShapes Go.WideShapes Go.RowKit Go.Deep
set_option linter.unusedVariables false
set_option linter.unusedSimpArgs false
namespace Grp
/-- A row of ints that is read. -/
def NRow (w : World) (A : Option Addr) (zs : List Int) : Prop := 0 < zs.length → ∃ a, A = some a ∧ a.block < w.heap.size ∧ ∀ i, i < zs.length → w.cell? (a.add i) = some (.int .i64 (zs.getD i 0))
theorem NRow.below {w w' : World} {A : Option Addr} {zs : List Int} (h : NRow w A zs) (hb : Below w.heap.size w w') : NRow w' A zs := fun h0 => by
  obtain ⟨a, rfl, ha, hc⟩ := h h0
  exact ⟨a, rfl, Nat.lt_of_lt_of_le ha hb.size, fun i hi => (hb.cell (p := a.add i) (by rw [block_of_add]; exact ha)).trans (hc i hi)⟩
def ints (l : List Int) : List Value := l.map (Value.int .i64)
theorem ints_len (l : List Int) : (ints l).length = l.length := by simp [ints]
theorem ints_at {l : List Int} {j : Nat} (h : j < l.length) : (ints l)[j]? = some (.int .i64 (l.getD j 0)) := by
  rw [ints, List.getElem?_map, List.getD, List.getElem?_eq_getElem h]
  rfl
theorem ints_one (l : List Int) : ∀ v ∈ ints l, v.oneCell' = true := by
  intro v hv
  obtain ⟨z, _, rfl⟩ := List.mem_map.1 hv
  rfl
theorem int_infoG : (Try.prog.info? 3).map (fun i => (i.zero, i.size, i.bytes)) = some (some (.int .i64 0), 1, 8) := by kernel_rfl
theorem take_snoc (l : List Int) (k : Nat) (h : k < l.length) : l.take (k + 1) = l.take k ++ [l.getD k 0] := by
  rw [List.take_succ_eq_append_getElem h, List.getD, List.getElem?_eq_getElem h]
  rfl
theorem getD_mem {l : List Int} {k : Nat} (h : k < l.length) : l.getD k 0 ∈ l := by
  rw [List.getD, List.getElem?_eq_getElem h]
  exact List.getElem_mem h
theorem ints_eq {a b : List Int} (hn : a.length = b.length) (h : ∀ i, i < a.length → a.getD i 0 = b.getD i 0) : decide (a = b) = true := by
  refine decide_eq_true (List.ext_getElem hn fun i h1 h2 => ?_)
  have := h i h1
  rw [List.getD, List.getD, List.getElem?_eq_getElem h1, List.getElem?_eq_getElem h2] at this
  exact this
theorem ints_ne {a b : List Int} {i : Nat} (h : ¬ a.getD i 0 = b.getD i 0) : decide (a = b) = false := decide_eq_false fun e => h (by rw [e])
set_option maxRecDepth 100000 in
set_option maxHeartbeats 2000000 in
theorem Ints_b (A B : Option Addr) (ca cb : Nat) (a b : List Int) (w : World) (ha : NRow w A a) (hb : NRow w B b) (hla : a.length ≤ 100000) (hlb : b.length ≤ 100000) :
    Calls Try.prog 13 #[.slice A a.length ca, .slice B b.length cb] w fun e w' => e = .returned (.bool (decide (a = b))) ∧ Below w.heap.size w w' := by
  have HA := hide ha
  have HC := hide hb
  clear ha hb
  by_cases hn : a.length = b.length
  rotate_left
  · have E : Hid (decide (a = b) = false) := hide (decide_eq_false fun e => hn (by rw [e]))
    have h0 : ¬ (a.length : Int) = (b.length : Int) := by omega
    have h1 : ((a.length : Int) == (b.length : Int)) = false := by simpa using h0
    have h2 : ((a.length : Int) != (b.length : Int)) = true := by simpa using h0
    clear h0
    go_enter Try.func13, Try.ntmps13
    go_wp2_with fail
    go_ret
    exact ⟨by rw [E.out]; rfl, Below.refl _ _⟩
  have EQ := hide (fun h => ints_eq hn h)
  have NE := hide (fun (i : Nat) h => @ints_ne a b i h)
  have LN := hide hn
  have h1 : ((a.length : Int) == (b.length : Int)) = true := by simp [hn]
  have h2 : ((a.length : Int) != (b.length : Int)) = false := by simp [hn]
  clear hn
  generalize decide (a = b) = res at *
  go_enter Try.func13, Try.ntmps13
  go_wp2_with fail
  go_loopw [5] (fun vi wr => ∃ i : Nat, i ≤ a.length ∧ vi = .int .i64 i ∧ Hid (∀ k, k < i → a.getD k 0 = b.getD k 0) ∧ Hid (Below w.heap.size w wr)) (fun vi _ => a.length - (intOf vi).toNat)
  case atStart => exact ⟨0, Nat.zero_le _, rfl, hide (fun k hk => absurd hk (Nat.not_lt_zero k)), hide (Below.refl _ _)⟩
  case round =>
    obtain ⟨i, hi, rfl, HN, HB⟩ := hrel
    by_cases hlt : i < a.length
    · have hlb2 : i < b.length := by have := LN.out; omega
      obtain ⟨p, rfl, hp, hcp⟩ := HA.out.below HB.out (by omega)
      obtain ⟨q, rfl, hq, hcq⟩ := HC.out.below HB.out (by omega)
      have g0 := hcp i hlt
      have g1 := hcq i hlb2
      have ltI : (i : Int) < (a.length : Int) := by omega
      have ltJ : (i : Int) < (b.length : Int) := by omega
      have HN2 : Hid (a.getD i 0 = b.getD i 0 → ∀ k, k < i + 1 → a.getD k 0 = b.getD k 0) := hide fun hx k hk => by
        rcases Nat.lt_or_ge k i with h7 | h7
        · exact HN.out k h7
        · obtain rfl : k = i := by omega
          exact hx
      have HF := hide (NE.out i)
      clear hcp hcq
      generalize a.getD i 0 = x at *
      generalize b.getD i 0 = y at *
      by_cases hx : x = y
      · have e1 : (x == y) = true := by simp [hx]
        have e2 : (x != y) = false := by simp [hx]
        have HN3 := hide (HN2.out hx)
        subst hx
        clear HN2 HF
        go_wp2_with fail
        go_quiet (fail)
        go_wp2_with fail
        go_roundw
        case rel => exact ⟨i + 1, by omega, by first | trivial | go_num, HN3, hide (below_drewN HB.out _)⟩
        case measure => simp [intOf]; omega
      · have R : res = false := HF.out hx
        subst R
        have e1 : (x == y) = false := by simpa using hx
        have e2 : (x != y) = true := by simpa using hx
        have HX := hide hx
        clear HN2 HF hx
        go_wp2_with fail
        go_quiet (fail)
        go_wp2_with fail
        go_ret
        exact ⟨rfl, below_drewN HB.out _⟩
    · have R : res = true := EQ.out fun k hk => HN.out k (by omega)
      subst R
      have ltI : ¬ (i : Int) < (a.length : Int) := by omega
      go_wp2_with fail
      go_ret
      exact ⟨rfl, HB.out⟩
theorem getD_take (l : List Int) (n i : Nat) (h : i < n) : (l.take n).getD i 0 = l.getD i 0 := by
  rw [List.getD, List.getD, List.getElem?_take, if_pos h]
section
variable {H : Type} {enc : TypeId × Value → H} {w : World} {base : Nat} {spare : Nat → Bool} {held : Bool}
theorem row_of {fuel : Nat} {c : Value} {x : DataW H × List MemPlace} (h : DataW.trod enc Try.prog w base spare held fuel 27 [c] = some x) (hs : ∀ b, spare b = true) :
    ∃ (A : Option Addr) (row : List Int) (cap : Nat), c = .slice A row.length cap ∧ NRow w A row := by
  rcases open_ints Try.underlying27 Try.underlying3 (by kernel_rfl) h with ⟨hcs, _⟩ | ⟨a, l, cap, zs, hcs, _, hl, hm, hz, _, hcell, hwz⟩
  · simp at hcs
    exact ⟨none, [], 0, hcs, fun h => absurd h (Nat.lt_irrefl 0)⟩
  · rw [hs, if_pos rfl] at hz
    simp at hcs
    have hlz : (zs.take l).length = l := by rw [List.length_take, hz]; omega
    refine ⟨some a, zs.take l, cap, by rw [hlz]; exact hcs, fun h => ⟨a, rfl, ?_, fun j hj => ?_⟩⟩
    · rw [hlz] at h
      have := block_lt_of_cell (hcell 0 (by omega))
      rwa [block_of_add] at this
    · rw [hlz] at hj
      rw [getD_take zs l j hj]
      exact hcell j (by omega)
end
end Grp
end Go.Proofs.Ytiggmieoldjhnaa
