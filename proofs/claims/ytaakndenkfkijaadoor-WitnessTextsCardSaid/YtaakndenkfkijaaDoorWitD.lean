/- witness.dotted: a letter and numbers, each with a dot ahead. -/
import Derived.Test.YtaakndenkfkijaaDoorRows
import Derived.Test.YtaakndenkfkijaaDoorWitA
import Derived.Test.YtaakndenkfkijaaDoorWitI
namespace Go.Proofs.YtaakndenkfkijaaDoor
open Go.RowKit Go.Lib Go.Joins Go.Sort
set_option linter.unusedVariables false
set_option linter.unusedSimpArgs false
theorem dots_take (l : List Int) (k : Nat) (h : k < l.length) : Wit.dots (l.take (k + 1)) = Wit.dots (l.take k) ++ 46 :: itoa (l.getD k 0) := by
  induction l generalizing k with
  | nil => simp at h
  | cons z r ih =>
    cases k with
    | zero => simp [Wit.dots]
    | succ k =>
      have := ih k (by simpa using h)
      rw [List.take_succ_cons, List.take_succ_cons, Wit.dots, Wit.dots, this, List.getD_cons_succ]
      simp
theorem dots_le (l : List Int) (hf : ∀ z ∈ l, Wit.Fit z) : (Wit.dots l).length ≤ l.length * 22 := by
  induction l with
  | nil => simp [Wit.dots]
  | cons z r ih =>
    have h := hf z List.mem_cons_self
    have := itoa_length_le z h.1 h.2
    have := ih fun y hy => hf y (List.mem_cons_of_mem _ hy)
    simp only [Wit.dots, List.length_cons, List.length_append]
    omega
set_option maxRecDepth 100000 in
theorem dotted_a (L : List UInt8) (b : Nat) (l : List Int) (w : World) (hb : b < w.heap.size) (hc : ∀ i, i < l.length → w.cell? ⟨b, i, none⟩ = some (.int .i64 (l.getD i 0))) (hl : l.length ≤ 100) (hL : L.length ≤ 1000) (hf : ∀ z ∈ l, Wit.Fit z) (h : Env w) :
    Calls Tryd.prog 20 #[.string (bytes L), .slice (some ⟨b, 0, none⟩) l.length l.length] w fun e w' => e = .returned (.string (bytes (L ++ Wit.dots l))) ∧ Below w.heap.size w w' := by
  have HE := hide h
  have HC := hide hc
  have HF := hide (Wit.getD_fit hf)
  have HD := hide (fun k (hk : k < l.length) => dots_take l k hk)
  have HL := hide (fun k => Nat.le_trans (dots_le (l.take k) fun z hz => hf z (List.mem_of_mem_take hz)) (by rw [List.length_take]; omega : (l.take k).length * 22 ≤ 2200))
  have HT : Hid (Wit.dots l = Wit.dots (l.take l.length)) := hide (by rw [List.take_length])
  clear h hc hf
  go_enter Tryd.func20, Tryd.ntmps20
  go_wp2_with fail
  go_loopw [0, 9] (fun vs vi wr => ∃ (k : Nat) (S : ByteArray), k ≤ l.length ∧ vi = .int .i64 k ∧ vs = .string S ∧ Hid (S = bytes (L ++ Wit.dots (l.take k))) ∧ Hid (Below w.heap.size w wr)) (fun _ vi _ => l.length - (RowKit.intOf vi).toNat)
  case atStart => exact ⟨0, _, by omega, rfl, rfl, hide (by simp [Wit.dots]), hide (Below.refl _ _)⟩
  case round =>
    obtain ⟨k, S, hk, rfl, rfl, hS, hB⟩ := hrel
    by_cases hlt : k < l.length
    · have hltI : (k : Int) < (l.length : Int) := by omega
      have hcell := (hB.out.cell (p := ⟨b, k, none⟩) hb).trans (HC.out k hlt)
      have hfit := HF.out k
      have hl1 := HL.out k
      have E : Hid (bytes (L ++ Wit.dots (l.take (k + 1))) = S ++ (bytes [46] ++ bytes (itoa (l.getD k 0)))) := hide (by rw [hS.out, HD.out k hlt, bytes_app, bytes_app]; simp)
      have hsz : S.size ≤ 3200 := by rw [hS.out, bytes_size, List.length_append]; omega
      have IT := hide (fun wx hx => itoa_a (l.getD k 0) wx hfit.1 hfit.2 hx)
      have hi : (bytes (itoa (l.getD k 0))).size ≤ 21 := by rw [bytes_size]; exact itoa_length_le _ hfit.1 hfit.2
      have HP := hide ((HE.out.below hB.out (Nat.le_refl _)).pow)
      clear hS hl1 hfit
      generalize bytes (itoa (l.getD k 0)) = I at *
      generalize l.getD k 0 = z at *
      have h1 : ¬ 9223372036854775807 < 1 + I.size := by omega
      have h2 : ¬ 9223372036854775807 < S.size + (1 + I.size) := by omega
      have h3 : ¬ 9223372036854775807 < S.size + I.size + 1 := by omega
      go_wp2_with fail
      refine (IT.out wr HP.out).mono ?_
      rintro e w1 ⟨rfl, hb1⟩
      have B1 := hide (hB.out.trans (hb1.mono hB.out.size))
      clear hb1
      go_wp2_with fail
      refine ⟨⟨k + 1, _, by omega, by simp, rfl, hide E.out.symm, B1⟩, by
        have e1 : RowKit.intOf (.int .i64 ((k : Int) + 1)) = (k : Int) + 1 := rfl
        have e2 : RowKit.intOf (.int .i64 (k : Int)) = (k : Int) := rfl
        rw [e1, e2]
        omega⟩
    · obtain rfl : k = l.length := by omega
      have hltI : ¬ (l.length : Int) < (l.length : Int) := by omega
      have E := hS.out
      rw [← HT.out] at E
      subst E
      have B1 := hB
      go_wp2_with fail
      go_ret
      exact ⟨rfl, B1.out⟩
end Go.Proofs.YtaakndenkfkijaaDoor
