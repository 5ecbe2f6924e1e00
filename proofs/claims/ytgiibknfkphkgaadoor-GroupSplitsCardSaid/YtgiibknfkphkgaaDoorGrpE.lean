/- Whether numbers, groups are the same: the reference's Ints and Same. -/
import Derived.Test.YtgiibknfkphkgaaDoorRows
import Derived.Test.YtgiibknfkphkgaaDoorGrpD
namespace Go.Proofs.YtgiibknfkphkgaaDoor
open Go.RowKit
set_option linter.unusedVariables false
set_option linter.unusedSimpArgs false
namespace Grp
theorem ints_eq {a b : List Int} (hn : a.length = b.length) (h : ∀ i, i < a.length → a.getD i 0 = b.getD i 0) : decide (a = b) = true := by
  refine decide_eq_true (List.ext_getElem hn fun i h1 h2 => ?_)
  have := h i h1
  rw [List.getD, List.getD, List.getElem?_eq_getElem h1, List.getElem?_eq_getElem h2] at this
  exact this
theorem ints_ne {a b : List Int} {i : Nat} (h : ¬ a.getD i 0 = b.getD i 0) : decide (a = b) = false := decide_eq_false fun e => h (by rw [e])
set_option maxRecDepth 100000 in
set_option maxHeartbeats 2000000 in
theorem Ints_b (A B : Option Addr) (ca cb : Nat) (a b : List Int) (w : World) (ha : NRow w A a) (hb : NRow w B b) (hla : a.length ≤ 100000) (hlb : b.length ≤ 100000) :
    Calls Tryd.prog 20 #[.slice A a.length ca, .slice B b.length cb] w fun e w' => e = .returned (.bool (decide (a = b))) ∧ Below w.heap.size w w' := by
  have HA := hide ha
  have HC := hide hb
  clear ha hb
  by_cases hn : a.length = b.length
  rotate_left
  · have E : Hid (decide (a = b) = false) := hide (decide_eq_false fun e => hn (by rw [e]))
    have h0 : ¬ (a.length : Int) = (b.length : Int) := by omega
    have h1 : ((a.length : Int) == (b.length : Int)) = false := by simpa using h0
    have h2 : ((a.length : Int) != (b.length : Int)) = true := by simpa using h0
    clear h0
    go_enter Tryd.func20, Tryd.ntmps20
    go_wp2_with fail
    go_ret
    exact ⟨by rw [E.out]; rfl, Below.refl _ _⟩
  have EQ := hide (fun h => ints_eq hn h)
  have NE := hide (fun (i : Nat) h => @ints_ne a b i h)
  have LN := hide hn
  have h1 : ((a.length : Int) == (b.length : Int)) = true := by simp [hn]
  have h2 : ((a.length : Int) != (b.length : Int)) = false := by simp [hn]
  clear hn
  generalize decide (a = b) = res at *
  go_enter Tryd.func20, Tryd.ntmps20
  go_wp2_with fail
  go_loopw [5] (fun vi wr => ∃ i : Nat, i ≤ a.length ∧ vi = .int .i64 i ∧ Hid (∀ k, k < i → a.getD k 0 = b.getD k 0) ∧ Hid (Below w.heap.size w wr)) (fun vi _ => a.length - (intOf vi).toNat)
  case atStart => exact ⟨0, Nat.zero_le _, rfl, hide (fun k hk => absurd hk (Nat.not_lt_zero k)), hide (Below.refl _ _)⟩
  case round =>
    obtain ⟨i, hi, rfl, HN, HB⟩ := hrel
    by_cases hlt : i < a.length
    · have hlb2 : i < b.length := by have := LN.out; omega
      obtain ⟨p, rfl, hp, hcp⟩ := HA.out.below HB.out (by omega)
      obtain ⟨q, rfl, hq, hcq⟩ := HC.out.below HB.out (by omega)
      have g0 := hcp i hlt
      have g1 := hcq i hlb2
      have ltI : (i : Int) < (a.length : Int) := by omega
      have ltJ : (i : Int) < (b.length : Int) := by omega
      have HN2 : Hid (a.getD i 0 = b.getD i 0 → ∀ k, k < i + 1 → a.getD k 0 = b.getD k 0) := hide fun hx k hk => by
        rcases Nat.lt_or_ge k i with h7 | h7
        · exact HN.out k h7
        · obtain rfl : k = i := by omega
          exact hx
      have HF := hide (NE.out i)
      clear hcp hcq
      generalize a.getD i 0 = x at *
      generalize b.getD i 0 = y at *
      by_cases hx : x = y
      · have e1 : (x == y) = true := by simp [hx]
        have e2 : (x != y) = false := by simp [hx]
        have HN3 := hide (HN2.out hx)
        subst hx
        clear HN2 HF
        go_wp2_with fail
        go_quiet (fail)
        go_wp2_with fail
        go_roundw
        case rel => exact ⟨i + 1, by omega, by first | trivial | go_num, HN3, hide (below_drewN HB.out _)⟩
        case measure => simp [intOf]; omega
      · have R : res = false := HF.out hx
        subst R
        have e1 : (x == y) = false := by simpa using hx
        have e2 : (x != y) = true := by simpa using hx
        have HX := hide hx
        clear HN2 HF hx
        go_wp2_with fail
        go_quiet (fail)
        go_wp2_with fail
        go_ret
        exact ⟨rfl, below_drewN HB.out _⟩
    · have R : res = true := EQ.out fun k hk => HN.out k (by omega)
      subst R
      have ltI : ¬ (i : Int) < (a.length : Int) := by omega
      go_wp2_with fail
      go_ret
      exact ⟨rfl, HB.out⟩
theorem str_eq_dec (k1 k2 : ByteArray) : (k1.toList == k2.toList) = decide (k1 = k2) := by
  rw [Bool.eq_iff_iff]
  simp only [beq_iff_eq, decide_eq_true_eq]
  constructor
  · intro h
    rw [ByteArray.toList_eq, ByteArray.toList_eq] at h
    exact ByteArray.ext (Array.toList_inj.1 h)
  · rintro rfl; rfl
set_option maxRecDepth 100000 in
set_option maxHeartbeats 2000000 in
theorem Same_b (k1 k2 : ByteArray) (A B : Option Addr) (ca cb : Nat) (a b : List Int) (w : World) (ha : NRow w A a) (hb : NRow w B b) (hla : a.length ≤ 100000) (hlb : b.length ≤ 100000) :
    Calls Tryd.prog 15 #[.agg #[.string k1, .slice A a.length ca], .agg #[.string k2, .slice B b.length cb]] w fun e w' => e = .returned (.bool (decide (k1 = k2 ∧ a = b))) ∧ Below w.heap.size w w' := by
  have b1 := Blk.new w 24 #[.string k1, .slice A a.length ca]
  have hb1 := (Below.refl w.heap.size w).alloc (Nat.le_refl _) (.cells #[.string k1, .slice A a.length ca] 24)
  have hs1 : (w.alloc (.cells #[.string k1, .slice A a.length ca] 24)).heap.size = w.heap.size + 1 := by simp
  obtain ⟨W1, hW1⟩ : ∃ W1, w.alloc (.cells #[.string k1, .slice A a.length ca] 24) = W1 := ⟨_, rfl⟩
  rw [hW1] at b1 hb1 hs1
  have b2 := b1.alloc (.cells #[.string k2, .slice B b.length cb] 24)
  have r2 := Blk.new W1 24 #[.string k2, .slice B b.length cb]
  have hb2 := hb1.alloc (by omega) (.cells #[.string k2, .slice B b.length cb] 24)
  obtain ⟨W2, hW2⟩ : ∃ W2, W1.alloc (.cells #[.string k2, .slice B b.length cb] 24) = W2 := ⟨_, rfl⟩
  rw [hW2] at b2 r2 hb2
  rw [hs1] at r2
  have q0 : W2.cell? ⟨w.heap.size, 0, none⟩ = some (.string k1) := b2.cell 0
  have q1 : W2.cell? ⟨w.heap.size, 1, none⟩ = some (.slice A a.length ca) := b2.cell 1
  have q2 : W2.cell? ⟨w.heap.size + 1, 0, none⟩ = some (.string k2) := r2.cell 0
  have q3 : W2.cell? ⟨w.heap.size + 1, 1, none⟩ = some (.slice B b.length cb) := r2.cell 1
  have HB := hide hb2
  have I := hide (Ints_b A B ca cb a b W2 (ha.below hb2) (hb.below hb2) hla hlb)
  have SE := hide (str_eq_dec k1 k2)
  clear b1 b2 r2 hb1 hb2 ha hb
  by_cases hk : k1 = k2
  · have e : (k1.toList == k2.toList) = true := by rw [SE.out]; exact decide_eq_true hk
    have R : decide (k1 = k2 ∧ a = b) = decide (a = b) := by simp [hk]
    rw [R]
    have HK := hide hk
    clear hk R
    generalize decide (a = b) = res at *
    go_enter Tryd.func15, Tryd.ntmps15
    go_wp2_with fail
    refine I.out.mono ?_
    rintro e w3 ⟨rfl, hb3⟩
    have HB3 := hide (HB.out.trans (hb3.mono HB.out.size))
    clear hb3
    go_wp2_with fail
    go_ret
    exact ⟨by simp, HB3.out⟩
  · have e : (k1.toList == k2.toList) = false := by rw [SE.out]; exact decide_eq_false hk
    have R : decide (k1 = k2 ∧ a = b) = false := by simp [hk]
    rw [R]
    have HK := hide hk
    clear hk R
    go_enter Tryd.func15, Tryd.ntmps15
    go_wp2_with fail
    go_ret
    exact ⟨rfl, HB.out⟩
end Grp
end Go.Proofs.YtgiibknfkphkgaaDoor
