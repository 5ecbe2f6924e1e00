/- The document's ready, Is and First. -/
import Derived.Test.YtflaikhkddjfjaaRows
import Derived.Test.YtflaikhkddjfjaaOrdAc
import Derived.BigQuiet
import Derived.LoopN
namespace Go.Proofs.Ytflaikhkddjfjaa
open Go Go.RowKit
set_option linter.unusedVariables false
set_option linter.unusedSimpArgs false
namespace Ord
theorem all_range {f : Nat → Bool} {n : Nat} : (List.range n).all f = true ↔ ∀ k, k < n → f k = true := by
  rw [List.all_eq_true]
  exact ⟨fun h k hk => h k (List.mem_range.2 hk), fun h k hk => h k (List.mem_range.1 hk)⟩
set_option maxRecDepth 100000 in
set_option maxHeartbeats 4000000 in
theorem ready_r (n o B Bi gi i len : Nat) (E : Nat → Ev) (f : Nat → Bool) (gs : List Nat) (w : World) (hf : Rf w o B n len E gs) (hgl : gs.length = len) (hb : BRow w Bi gi len f) (hi : i < len) (hl : len ≤ 120) :
    Calls Try.prog 34 #[.pointer (some ⟨o, 0, none⟩), .slice (some ⟨gi, 0, none⟩) len len, .int .i64 i] w fun e w' => e = .returned (.bool (rdyB E len f i)) ∧ w = w' := by
  have hig : i < gs.length := by omega
  obtain ⟨R2, rc2, gA, ac2, b, cg, brow⟩ := hf.row hig
  have b2 := b.cell 2
  simp only [List.getElem?_toArray, List.getElem?_cons_succ, List.getElem?_cons_zero] at b2
  rw [hgl] at b2
  have hiI : (i : Int) < (len : Int) := by omega
  obtain ⟨gi2, hgi2⟩ : ∃ x, gs[i] = x := ⟨_, rfl⟩
  rw [hgi2] at cg brow
  have CA := hide (fun (k : Nat) (hk : k < len) => brow.cell (m := k) hk)
  have CF := hide (fun (k : Nat) (hk : k < len) => hb.cell (m := k) hk)
  have cfi := hb.cell hi
  clear hf hb b brow hgi2
  go_enter Try.func34, Try.ntmps34
  go_wp2_with fail
  go_loopw [7] (fun vk wr => ∃ (k : Nat), k ≤ len ∧ vk = .int .i64 k ∧ Hid (∀ m, m < k → (!ahB E i m || f m) = true) ∧ wr = w) (fun vk _ => len - (intOf vk).toNat)
  case atStart => exact ⟨0, by omega, rfl, hide (fun m hm => absurd hm (Nat.not_lt_zero m)), rfl⟩
  case round =>
    obtain ⟨k, hk, rfl, HS, rfl⟩ := hrel
    by_cases hlt : k < len
    rotate_left
    · have hltI : ¬ (k : Int) < (len : Int) := by omega
      have FIN := hide (show rdyB E len f i = !f i by
        unfold rdyB
        rw [all_range.2 (fun m hm => HS.out m (by omega)), Bool.true_and])
      go_wp2_with fail
      go_ret
      exact ⟨by rw [FIN.out]; rfl, by first | trivial | rfl⟩
    have hltI : (k : Int) < (len : Int) := by omega
    have ca := CA.out k hlt
    have cf := CF.out k hlt
    cases ha : ahB E i k with
    | false =>
      rw [ha] at ca
      have HS2 : Hid (∀ m, m < k + 1 → (!ahB E i m || f m) = true) := hide (fun m hm => by
        by_cases e : m = k
        · rw [e, ha]; rfl
        · exact HS.out m (by omega))
      clear ha cf
      go_wp2_with fail
      go_roundw
      case rel => exact ⟨k + 1, by omega, by go_num, HS2, by first | trivial | rfl⟩
      case measure => simp [intOf] <;> omega
    | true =>
      rw [ha] at ca
      cases hfk : f k with
      | true =>
        rw [hfk] at cf
        have HS2 : Hid (∀ m, m < k + 1 → (!ahB E i m || f m) = true) := hide (fun m hm => by
          by_cases e : m = k
          · rw [e, hfk, Bool.or_true]
          · exact HS.out m (by omega))
        clear ha hfk
        go_wp2_with fail
        go_roundw
        case rel => exact ⟨k + 1, by omega, by go_num, HS2, by first | trivial | rfl⟩
        case measure => simp [intOf] <;> omega
      | false =>
        rw [hfk] at cf
        have FIN := hide (show rdyB E len f i = false by
          unfold rdyB
          cases h : (List.range len).all (fun k => !ahB E i k || f k) with
          | false => rfl
          | true =>
            have := all_range.1 h k hlt
            rw [ha, hfk] at this
            cases this)
        clear ha hfk
        go_wp2_with fail
        go_ret
        exact ⟨by rw [FIN.out]; rfl, by first | trivial | rfl⟩
def isPost (E : Nat → Ev) (len : Nat) (l : List Int) (w : World) (e : Ending) (w' : World) : Prop := (∃ b : Bool, e = .returned (.bool b) ∧ (b = true ↔ l.length = len ∧ ∀ a, a < l.length → okA E len l a)) ∧ Below w.heap.size w w'
set_option maxRecDepth 100000 in
set_option maxHeartbeats 4000000 in
theorem Is_r (n o B len cap : Nat) (E : Nat → Ev) (gs : List Nat) (A : Option Addr) (l : List Int) (w : World) (hf : Rf w o B n len E gs) (hgl : gs.length = len) (hr : Rd w w.heap.size A l) (hl : len ≤ 120) (hm : l.length ≤ 1000) :
    Calls Try.prog 20 #[.pointer (some ⟨o, 0, none⟩), .slice A l.length cap] w (isPost E len l w) := by
  obtain ⟨R, rc, A2, ac, b, _, _⟩ := hf.tab
  have b1 := b.cell 1
  simp only [List.getElem?_toArray, List.getElem?_cons_succ, List.getElem?_cons_zero] at b1
  rw [hgl] at b1
  by_cases hne : l.length = len
  rotate_left
  · have hneI : ((l.length : Int) != (len : Int)) = true := by rw [bne_iff_ne]; omega
    have HN := hide hne
    clear hf hgl hr b hne
    go_enter Try.func20, Try.ntmps20
    go_wp2_with fail
    go_ret
    exact ⟨⟨false, rfl, ⟨fun h => (by cases h), fun h => absurd h.1 HN.out⟩⟩, Below.refl _ _⟩
  have HNE := hide hne
  have hneI : ((len : Int) != (len : Int)) = false := by simp
  have HF := hide hf
  have HGL := hide hgl
  have HR := hide hr
  rw [hne]
  clear hf hgl hr b hne
  go_enter Try.func20, Try.ntmps20
  go_wp2_with fail
  clear b1
  go_loopw [5] (fun va wr => ∃ (a : Nat), a ≤ len ∧ va = .int .i64 a ∧ Hid (∀ m, m < a → okA E len l m) ∧ Hid (Below w.heap.size w wr)) (fun va _ => len - (intOf va).toNat)
  case atStart => exact ⟨0, by omega, rfl, hide (fun m hm => absurd hm (Nat.not_lt_zero m)), hide (Below.refl _ _)⟩
  case round =>
    obtain ⟨a, ha, rfl, HS, HB⟩ := hrel
    rename World => W1
    by_cases hlt : a < len
    rotate_left
    · have hltI : ¬ (a : Int) < (len : Int) := by omega
      go_wp2_with fail
      go_ret
      exact ⟨⟨true, rfl, ⟨fun _ => ⟨HNE.out, fun m hm => HS.out m (by have := HNE.out; omega)⟩, fun _ => rfl⟩⟩, HB.out⟩
    have hltI : (a : Int) < (len : Int) := by omega
    have hal : a < l.length := by rw [HNE.out]; exact hlt
    have HR1 := hide (rd_on HR.out HB.out)
    obtain ⟨ad, rfl, hbl, cx⟩ := rd_at HR1.out hal
    have BAD := hide (fun (h : ¬ okA E len l a) => (show ¬ (l.length = len ∧ ∀ m, m < l.length → okA E len l m) from fun h2 => h (h2.2 a hal)))
    obtain ⟨x, hx⟩ : ∃ x, l.getD a 0 = x := ⟨_, rfl⟩
    rw [hx] at cx
    have HX := hide hx
    clear hx hbl
    by_cases hx0 : x < 0
    · have FIN := hide (BAD.out (fun h => by have := h.1.1; rw [HX.out] at this; omega))
      go_wp2_with fail
      go_ret
      exact ⟨⟨false, rfl, ⟨fun h => (by cases h), fun h => absurd h FIN.out⟩⟩, HB.out⟩
    by_cases hx1 : (len : Int) ≤ x
    · have FIN := hide (BAD.out (fun h => by have := h.1.2; rw [HX.out] at this; omega))
      go_wp2_with fail
      go_ret
      exact ⟨⟨false, rfl, ⟨fun h => (by cases h), fun h => absurd h FIN.out⟩⟩, HB.out⟩
    obtain ⟨xn, rfl⟩ : ∃ xn : Nat, x = xn := ⟨x.toNat, by omega⟩
    have hxl : xn < len := by omega
    have hxI : (xn : Int) < (len : Int) := by omega
    have CXA := hide (fun (w' : World) (hb : Below W1.heap.size W1 w') => (rd_at (rd_on HR1.out hb) hal))
    go_wp2_with fail
    clear cx
    go_loopw [6] (fun vk wr => ∃ (k : Nat), k ≤ a ∧ vk = .int .i64 k ∧ Hid (∀ m, m < k → l.getD m 0 ≠ (xn : Int) ∧ ahB E (l.getD m 0).toNat xn = false) ∧ Hid (Below W1.heap.size W1 wr)) (fun vk _ => a - (intOf vk).toNat)
    case atStart => exact ⟨0, by omega, rfl, hide (fun m hm => absurd hm (Nat.not_lt_zero m)), hide (Below.refl _ _)⟩
    case round =>
      obtain ⟨k, hk, rfl, HK, HBk⟩ := hrel
      rename World => W2
      have HB2 := hide (HB.out.trans (HBk.out.mono HB.out.size))
      by_cases hka : k < a
      rotate_left
      · have hkaI : ¬ (k : Int) < (a : Int) := by omega
        have HS2 : Hid (∀ m, m < a + 1 → okA E len l m) := hide (fun m hm => by
          by_cases e : m = a
          · rw [e]
            unfold okA
            rw [HX.out, Int.toNat_natCast]
            exact ⟨⟨by omega, by omega⟩, fun q hq => HK.out q (by omega)⟩
          · exact HS.out m (by omega))
        go_wp2_with fail
        go_roundw
        case rel => exact ⟨a + 1, by omega, by go_num, HS2, HB2⟩
        case measure => simp [intOf] <;> omega
      have hkaI : (k : Int) < (a : Int) := by omega
      have hkI : (k : Int) < (len : Int) := by omega
      have hkl : k < l.length := by omega
      have oky := HS.out k hka
      obtain ⟨ad2, had2, _, cy⟩ := rd_at (rd_on HR1.out HBk.out) hkl
      injection had2 with had2
      subst had2
      obtain ⟨ad3, had3, _, cx⟩ := CXA.out W2 HBk.out
      injection had3 with had3
      subst had3
      rw [HX.out] at cx
      obtain ⟨y, hy⟩ : ∃ y, l.getD k 0 = y := ⟨_, rfl⟩
      have hy0 := oky.1
      rw [hy] at cy hy0
      obtain ⟨yn, rfl⟩ : ∃ yn : Nat, y = yn := ⟨y.toNat, by omega⟩
      have HY := hide hy
      have hyl : yn < len := by omega
      have hyI : (yn : Int) < (len : Int) := by omega
      obtain ⟨R2, rc2, gA, ac2, b, cg, brow⟩ := (HF.out.below HB2.out).row (i := yn) (by rw [HGL.out]; exact hyl)
      have b2 := b.cell 2
      simp only [List.getElem?_toArray, List.getElem?_cons_succ, List.getElem?_cons_zero] at b2
      rw [HGL.out] at b2
      have ca := brow.cell (m := xn) hxl
      obtain ⟨gy, hgy⟩ : ∃ x, gs[yn]'(by rw [HGL.out]; exact hyl) = x := ⟨_, rfl⟩
      rw [hgy] at cg ca
      have HBq := hide (fun m : Nat => below_drewN HBk.out m)
      have HBq2 := hide (fun m : Nat => below_drewN HB2.out m)
      clear b brow hgy hy hy0 oky
      by_cases hxy : yn = xn
      · have FIN := hide (BAD.out (fun h => by
          have := (h.2 k hka).1
          rw [HX.out, HY.out, hxy] at this
          exact this rfl))
        have hxyB : ((yn : Int) == (xn : Int)) = true := by rw [hxy]; simp
        clear hxy
        go_wp2_with fail
        go_quiet (fail)
        clear b2 cg ca cx cy
        go_wp2_with fail
        go_ret
        exact ⟨⟨false, rfl, ⟨fun h => (by cases h), fun h => absurd h FIN.out⟩⟩, HBq2.out _⟩
      have hxyB : ((yn : Int) == (xn : Int)) = false := by rw [beq_eq_false_iff_ne]; omega
      cases hab : ahB E yn xn with
      | true =>
        have FIN := hide (BAD.out (fun h => by
          have := (h.2 k hka).2
          rw [HX.out, HY.out, Int.toNat_natCast, Int.toNat_natCast, hab] at this
          cases this))
        rw [hab] at ca
        clear hxy hab
        go_wp2_with fail
        go_quiet (fail)
        clear b2 cg ca cx cy
        go_wp2_with fail
        go_ret
        exact ⟨⟨false, rfl, ⟨fun h => (by cases h), fun h => absurd h FIN.out⟩⟩, HBq2.out _⟩
      | false =>
        have HK2 : Hid (∀ m, m < k + 1 → l.getD m 0 ≠ (xn : Int) ∧ ahB E (l.getD m 0).toNat xn = false) := hide (fun m hm => by
          by_cases e : m = k
          · rw [e, HY.out, Int.toNat_natCast]
            exact ⟨by omega, hab⟩
          · exact HK.out m (by omega))
        rw [hab] at ca
        clear hxy hab
        go_wp2_with fail
        go_quiet (fail)
        clear b2 cg ca cx cy
        go_wp2_with fail
        go_roundw
        case rel => exact ⟨k + 1, by omega, by go_num, HK2, hide (HBq.out _)⟩
        case measure => simp [intOf] <;> omega
end Ord
end Go.Proofs.Ytflaikhkddjfjaa
