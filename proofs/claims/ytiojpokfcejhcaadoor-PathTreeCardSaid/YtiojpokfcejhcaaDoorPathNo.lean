/- What a tree has at a way: node. -/
import Derived.Test.YtiojpokfcejhcaaDoorRows
import Derived.Test.YtiojpokfcejhcaaDoorPathTr
import Derived.Test.YtiojpokfcejhcaaDoorPathN
import Derived.Test.YtiojpokfcejhcaaDoorPathKe
namespace Go.Proofs.YtiojpokfcejhcaaDoor
open Go Go.RowKit
set_option linter.unusedVariables false
set_option linter.unusedSimpArgs false
namespace Pth
/-- A row of bytes that is read. -/
def SRow (w : World) (A : Option Addr) (sh : List Int) : Prop := 0 < sh.length → ∃ a, A = some a ∧ ∀ i, i < sh.length → w.cell? (a.add i) = some (.int .u8 (sh.getD i 0)) ∧ 0 ≤ sh.getD i 0 ∧ sh.getD i 0 ≤ 255
theorem SRow.below {w w' : World} {A : Option Addr} {sh : List Int} (h : SRow w A sh) (hb : Below w.heap.size w w') : SRow w' A sh := fun h0 => by
  obtain ⟨a, e, hc⟩ := h h0
  exact ⟨a, e, fun i hi => ⟨(hb.cell (block_lt_of_cell (hc i hi).1)).trans (hc i hi).1, (hc i hi).2⟩⟩
theorem SRow.of_is {w : World} {A : Option Addr} {len cap : Nat} {z : List Int} (h : IsRow .u8 w A len cap z) : ∃ sh : List Int, sh.length = len ∧ SRow w A sh := by
  rcases h with ⟨rfl, rfl, rfl, rfl⟩ | ⟨x, rfl, hlc, hcm, hz, hc, hwf⟩
  · exact ⟨[], rfl, fun h => absurd h (Nat.lt_irrefl 0)⟩
  · refine ⟨z.take len, by rw [List.length_take]; omega, fun h0 => ⟨x, rfl, fun i hi => ?_⟩⟩
    rw [List.length_take] at hi
    have hi' : i < z.length := by omega
    have e : (z.take len).getD i 0 = z.getD i 0 := by
      rw [List.getD_eq_getElem?_getD, List.getD_eq_getElem?_getD, List.getElem?_take, if_pos (by omega)]
    rw [e]
    refine ⟨hc i hi', ?_⟩
    have hm : z.getD i 0 ∈ z := by
      rw [List.getD_eq_getElem?_getD, List.getElem?_eq_getElem hi']
      exact List.getElem_mem hi'
    have := hwf _ hm
    simp [Lit.wf, IntKind.min, IntKind.max, IntKind.signed, IntKind.bits] at this
    simpa using this
set_option maxRecDepth 100000 in
set_option maxHeartbeats 8000000 in
theorem node_c (A : Option Addr) (cap : Nat) (sh : List Int) (vw : Value) (way : List Sp) (B : Nat) (w : World) (hs : SRow w A sh) (hl : sh.length ≤ 60) (ho : w.ownsRow B 49 8 vw way.length (spCs way)) (hk : WOk way) (hw : way.length ≤ 4) :
    Calls Tryd.prog 8 #[.slice A sh.length cap, vw] w fun e w' => e = .returned (.tuple #[.int .i64 ((nodeN sh way).1 : Nat), .bool (nodeN sh way).2]) ∧ Below w.heap.size w w' := by
  obtain ⟨av, cv, rfl⟩ := own_form ho
  by_cases h4 : 4 ≤ way.length
  · have hI : (4 : Int) ≤ (way.length : Int) := by omega
    have hN : nodeN sh way = (0, false) := by unfold nodeN; rw [if_pos (.inl h4)]
    rw [hN]
    clear hs ho hk
    go_enter Tryd.func8, Tryd.ntmps8
    go_wp2_with fail
    go_ret2
    exact ⟨rfl, Below.refl _ _⟩
  have hI : ¬ (4 : Int) ≤ (way.length : Int) := by omega
  by_cases h0 : sh.length = 0
  · have hN : nodeN sh way = (0, false) := by unfold nodeN; rw [if_pos (.inr h0)]
    rw [hN, h0]
    clear hs ho hk
    go_enter Tryd.func8, Tryd.ntmps8
    go_wp2_with fail
    go_ret2
    exact ⟨rfl, Below.refl _ _⟩
  have h0I : ¬ (sh.length : Int) = 0 := by omega
  have hpos : (0 : Int) < (sh.length : Int) := by omega
  have HN := hide (show nodeN sh way = ((sh.getD (numW way.length way % sh.length) 0).toNat % 4, decide (128 ≤ sh.getD (numW way.length way % sh.length) 0)) by unfold nodeN; rw [if_neg (by omega)])
  have HS := hide hs
  have HO := hide ho
  have HK := hide hk
  clear hs ho hk
  go_enter Tryd.func8, Tryd.ntmps8
  go_wp2_with fail
  go_loopw [6, 7] (fun vn vi wr => ∃ (j m : Nat), j ≤ way.length ∧ vi = .int .i64 j ∧ vn = .int .i64 m ∧ Hid (m + 2 ≤ 5 * 3 ^ j) ∧ Hid (numW m (way.drop j) = numW way.length way) ∧ wr = w) (fun _ vi _ => way.length - (intOf vi).toNat)
  case atStart => exact ⟨0, way.length, by omega, rfl, rfl, hide (by simp; omega), hide rfl, rfl⟩
  case round =>
    obtain ⟨j, m, hj, rfl, rfl, HM, HW, rfl⟩ := hrel
    have hp3 : 3 ^ j ≤ 3 ^ 3 := Nat.pow_le_pow_right (by omega) (by omega)
    have hm := HM.out
    have hm1 : m ≤ 133 := by omega
    clear hm
    by_cases hlt : j < way.length
    · have hltI : (j : Int) < (way.length : Int) := by omega
      obtain ⟨g, rfl, c0, _, _, _, _, c5, _, _⟩ := own_sp HO.out j hlt (by omega)
      have hf := HK.out _ (List.getElem_mem hlt)
      have HD := hide (show numW m (way.drop j) = numW (3 * m + way[j].ch.f.toNat + (if way[j].off then 2 else 0)) (way.drop (j + 1)) by rw [List.drop_eq_getElem_cons hlt]; rfl)
      generalize way[j] = s at *
      obtain ⟨so, sr, sc, ⟨x0, x1, x2, x3, x4⟩⟩ := s
      simp only at c0 c5 hf HD
      obtain ⟨f, rfl⟩ : ∃ f : Nat, x2 = (f : Int) := ⟨x2.toNat, by omega⟩
      have hf2 : f ≤ 2 := by omega
      have c5 : wr.cell? ⟨g, j * 8 + 3 + 2, none⟩ = some (.int .i64 (f : Int)) := c5
      have HF2 := hide hf2
      clear hf
      cases so with
      | false =>
        go_wp2_with fail
        go_roundw
        case rel => exact ⟨j + 1, 3 * m + f, by omega, by go_num, by go_num, hide (by have := HM.out; have := HF2.out; rw [Nat.pow_succ]; omega), hide (by have := HD.out; have := HW.out; simp at *; omega), trivial⟩
        case measure => simp [intOf]; omega
      | true =>
        go_wp2_with fail
        go_roundw
        case rel => exact ⟨j + 1, 3 * m + f + 2, by omega, by go_num, by go_num, hide (by have := HM.out; have := HF2.out; rw [Nat.pow_succ]; omega), hide (by have := HD.out; have := HW.out; simp at *; omega), trivial⟩
        case measure => simp [intOf]; omega
    · have hltI : ¬ (j : Int) < (way.length : Int) := by omega
      have hmw : m = numW way.length way := by
        have h1 := HW.out
        rw [List.drop_eq_nil_of_le (by omega)] at h1
        exact h1
      have hN := HN.out
      rw [← hmw] at hN
      have hlt2 : m % sh.length < sh.length := Nat.mod_lt _ (by omega)
      have hmod : Int.tmod (m : Int) (sh.length : Int) = ((m % sh.length : Nat) : Int) := by rw [Int.tmod_eq_emod_of_nonneg (by omega)]; rfl
      obtain ⟨a, rfl, hc⟩ := HS.out (by omega)
      obtain ⟨c, b0, b1⟩ := hc _ hlt2
      generalize sh.getD (m % sh.length) 0 = x at *
      obtain ⟨X, rfl⟩ : ∃ X : Nat, x = (X : Int) := ⟨x.toNat, by omega⟩
      generalize m % sh.length = q at *
      have hqI : (q : Int) < (sh.length : Int) := by omega
      have hX : Int.tmod (X : Int) 4 = ((X % 4 : Nat) : Int) := by rw [Int.tmod_eq_emod_of_nonneg (by omega)]; rfl
      have hX4 : X % 4 < 4 := Nat.mod_lt _ (by omega)
      have hXe : ((X : Int)).toNat % 4 = X % 4 := by simp
      rw [hXe] at hN
      have HN2 := hide hN
      generalize X % 4 = y at *
      clear hN hXe hmw hc HN
      by_cases hg : (128 : Int) ≤ (X : Int)
      · rw [decide_eq_true hg] at HN2
        go_wp2_with fail
        go_ret2
        exact ⟨by rw [HN2.out]; rfl, Below.refl _ _⟩
      · rw [decide_eq_false hg] at HN2
        go_wp2_with fail
        go_ret2
        exact ⟨by rw [HN2.out]; rfl, Below.refl _ _⟩
end Pth
end Go.Proofs.YtiojpokfcejhcaaDoor
