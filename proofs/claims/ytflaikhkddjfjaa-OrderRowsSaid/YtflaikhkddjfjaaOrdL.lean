/- The document's Depths. -/
import Derived.Test.YtflaikhkddjfjaaRows
import Derived.Test.YtflaikhkddjfjaaOrdK
import Derived.LoopN
namespace Go.Proofs.Ytflaikhkddjfjaa
open Go Go.RowKit
set_option linter.unusedVariables false
set_option linter.unusedSimpArgs false
namespace Ord
def fL (f : Nat → Nat) (k : Nat) : List Nat := (List.range k).map f
theorem fL_len (f : Nat → Nat) (k : Nat) : (fL f k).length = k := by simp [fL]
theorem fL_succ (f : Nat → Nat) (k : Nat) : fL f (k + 1) = fL f k ++ [f k] := by simp [fL, List.range_succ]
theorem fL_at (f : Nat → Nat) {k i : Nat} (h : i < k) : (natI (fL f k)).getD i 0 = (f i : Int) := by
  rw [List.getD_eq_getElem?_getD, natI, List.getElem?_map, fL, List.getElem?_map, List.getElem?_range h]
  rfl
/-- The deepest one of those ahead, of the first k. -/
def Mx (E : Nat → Ev) (f : Nat → Nat) (i k m : Nat) : Prop := ∀ x, x < m ↔ ∃ j, j < k ∧ Ah E i j ∧ x < f j
theorem Mx.zero (E : Nat → Ev) (f : Nat → Nat) (i : Nat) : Mx E f i 0 0 := fun x => ⟨fun h => absurd h (Nat.not_lt_zero x), fun ⟨j, h, _⟩ => absurd h (Nat.not_lt_zero j)⟩
theorem Mx.no {E : Nat → Ev} {f : Nat → Nat} {i k m : Nat} (h : Mx E f i k m) (hn : ¬ (Ah E i k ∧ m < f k)) : Mx E f i (k + 1) m := fun x => by
  rw [h x]
  constructor
  · rintro ⟨j, h1, h2⟩
    exact ⟨j, by omega, h2⟩
  · rintro ⟨j, h1, h2, h3⟩
    by_cases e : j = k
    · subst e
      have h4 : x < m := by
        have : ¬ m < f j := fun h => hn ⟨h2, h⟩
        omega
      exact (h x).1 h4
    · exact ⟨j, by omega, h2, h3⟩
theorem Mx.yes {E : Nat → Ev} {f : Nat → Nat} {i k m : Nat} (h : Mx E f i k m) (ha : Ah E i k) (hm : m < f k) : Mx E f i (k + 1) (f k) := fun x => by
  constructor
  · intro hx
    exact ⟨k, by omega, ha, hx⟩
  · rintro ⟨j, h1, h2, h3⟩
    by_cases e : j = k
    · subst e; exact h3
    · have := (h x).2 ⟨j, by omega, h2, h3⟩
      omega
theorem Mx.deep {E : Nat → Ev} {f : Nat → Nat} {i m : Nat} (h : Mx E f i i m) (hf : Deep E f i) : m + 1 = f i := by
  have e : ∀ x, x < m + 1 ↔ x < f i := fun x => by
    rw [hf x]
    rcases x with _ | x
    · exact ⟨fun _ => .inl (by omega), fun _ => by omega⟩
    · have := h x
      constructor
      · intro hx
        obtain ⟨j, _, h2, h3⟩ := this.1 (by omega)
        exact .inr ⟨j, h2, by omega⟩
      · rintro (hx | ⟨j, h2, h3⟩)
        · omega
        · have := this.2 ⟨j, h2.lt, h2, by omega⟩
          omega
  have a := e (m + 1)
  have b := e (f i)
  omega
set_option maxRecDepth 100000 in
set_option maxHeartbeats 4000000 in
theorem refDepths_c (n len o B : Nat) (E : Nat → Ev) (f : Nat → Nat) (gs : List Nat) (w : World) (hf : Rf w o B n len E gs) (hgl : gs.length = len) (hl : len ≤ 120) (hd : ∀ k, k < len → Deep E f k) (hb : ∀ k, k < len → f k ≤ 1000) :
    Calls Try.prog 11 #[.pointer (some ⟨o, 0, none⟩)] w fun e w' => ∃ v, e = .returned v ∧ w'.ownsRow w.heap.size 3 1 v len (ints (natI (fL f len))) ∧ Below w.heap.size w w' := by
  subst hgl
  have HF := hide hf
  have HD := hide hd
  have HFB := hide hb
  obtain ⟨R, rc, A2, ac, b, _, _⟩ := hf.tab
  have b1 := b.cell 1
  simp only [List.getElem?_toArray, List.getElem?_cons_succ, List.getElem?_cons_zero] at b1
  have hlt0 := b.lt
  have B1 := hide (fun (w' : World) (hb : Below w.heap.size w w') => (hb.cell (p := ⟨o, 1, none⟩) hlt0).trans b1)
  clear hf hd hb b b1
  go_enter Try.func11, Try.ntmps11
  go_wp2_with fail
  go_loopw [3, 4] (fun vo vi wr => ∃ (k : Nat) (A : Option Addr) (cap : Nat), k ≤ gs.length ∧ vi = .int .i64 k ∧ vo = .slice A k cap ∧ Hid (wr.ownsRow w.heap.size 3 1 (.slice A k cap) k (ints (natI (fL f k)))) ∧ Hid (Below w.heap.size w wr)) (fun _ vi _ => gs.length - (intOf vi).toNat)
  case atStart => exact ⟨0, none, 0, by omega, rfl, rfl, hide ⟨rfl, .inl ⟨rfl, rfl⟩⟩, hide (Below.refl _ _)⟩
  case round =>
    obtain ⟨k, A, cap, hk, rfl, rfl, OW, HB⟩ := hrel
    rename World => W0
    have b1 := B1.out _ HB.out
    by_cases hlt : k < gs.length
    rotate_left
    · have hltI : ¬ (k : Int) < (gs.length : Int) := by omega
      obtain rfl : k = gs.length := by omega
      go_wp2_with fail
      go_ret
      exact ⟨_, rfl, OW.out, HB.out⟩
    have hltI : (k : Int) < (gs.length : Int) := by omega
    go_wp2_with fail
    clear b1
    go_loopw [5, 6] (fun vm vj ws => ∃ (j m : Nat), j ≤ k ∧ vj = .int .i64 j ∧ vm = .int .i64 m ∧ Hid (m ≤ 1000) ∧ Hid (Mx E f k j m) ∧ Hid (Below W0.heap.size W0 ws)) (fun _ vj _ => k - (intOf vj).toNat)
    case atStart => exact ⟨0, 0, by omega, rfl, rfl, hide (by omega), hide (Mx.zero E f k), hide (Below.refl _ _)⟩
    case round =>
      obtain ⟨j, m, hj, rfl, rfl, HM1, HM, HBj⟩ := hrel
      rename World => ws
      have hm1 := HM1.out
      by_cases hjk : j < k
      · have hjkI : (j : Int) < (k : Int) := by omega
        have hjgI : (j : Int) < (gs.length : Int) := by omega
        obtain ⟨R2, rc2, gA, ac2, b, cg, brow⟩ := (HF.out.below (HB.out.trans (HBj.out.mono HB.out.size))).row hlt
        have b2 := b.cell 2
        simp only [List.getElem?_toArray, List.getElem?_cons_succ, List.getElem?_cons_zero] at b2
        have ca := brow.cell (m := j) (by omega)
        obtain ⟨g, rfl, _, cf⟩ := row_at (own_belowR OW.out HBj.out) (show j < (natI (fL f k)).length by rw [natI_len, fL_len]; exact hjk) (by rw [natI_len, fL_len])
        rw [fL_at f hjk] at cf
        have hfj := HFB.out j (by omega)
        cases hab : ahB E k j with
        | false =>
          have HM2 := hide (HM.out.no (fun h => by have := ahB_iff.2 h.1; rw [hab] at this; cases this))
          rw [hab] at ca
          clear hab b brow
          go_wp2_with fail
          go_roundw
          case rel => exact ⟨j + 1, m, by omega, by go_num, rfl, HM1, HM2, HBj⟩
          case measure => simp [intOf] <;> omega
        | true =>
          have hah := ahB_iff.1 hab
          rw [hab] at ca
          by_cases hmf : m < f j
          · have HM2 := hide (HM.out.yes hah hmf)
            have HM3 := hide hfj
            have hmfI : (m : Int) < (f j : Int) := by omega
            clear hab b brow hah hmf
            generalize f j = fj at *
            go_wp2_with fail
            go_roundw
            case rel => exact ⟨j + 1, fj, by omega, by go_num, rfl, HM3, HM2, HBj⟩
            case measure => simp [intOf] <;> omega
          · have HM2 := hide (HM.out.no (fun h => hmf h.2))
            have hmfI : ¬ (m : Int) < (f j : Int) := by omega
            clear hab b brow hah hmf
            generalize f j = fj at *
            go_wp2_with fail
            go_roundw
            case rel => exact ⟨j + 1, m, by omega, by go_num, rfl, HM1, HM2, HBj⟩
            case measure => simp [intOf] <;> omega
      have hjkI : ¬ (j : Int) < (k : Int) := by omega
      obtain rfl : j = k := by omega
      have hmd := HM.out.deep (HD.out j hlt)
      have HBs := HB.out.trans (HBj.out.mono HB.out.size)
      obtain ⟨A1, c1, w3, hrun, hown, hb3, _⟩ := push_int ws w.heap.size A cap j (natI (fL f j)) ((m : Int) + 1) (by rw [natI_len, fL_len]) (own_belowR OW.out HBj.out) HBs.size (by omega)
      have OW3 : Hid (w3.ownsRow w.heap.size 3 1 (.slice A1 (j + 1) c1) (j + 1) (ints (natI (fL f (j + 1))))) := hide (by
        rw [fL_succ, natI_app, ← hmd]
        exact hown)
      have HB3 := hide (HBs.trans hb3)
      clear hown hb3 hmd HBs
      go_wp2_with (at_builtin; refine Lib.wpList_append_run _ rfl (.tmp 43) (.tmp 46) _ _ rfl _ _ rfl rfl _ w3 hrun ?_)
      go_roundw
      case rel => exact ⟨j + 1, A1, c1, by omega, by go_num, rfl, OW3, HB3⟩
      case measure => simp [intOf] <;> omega
end Ord
end Go.Proofs.Ytflaikhkddjfjaa
