/- What a text is parsed as: the program's Parse. -/
import Derived.Test.YtnmaclpjddafnaaDoorRows
import Derived.Test.YtnmaclpjddafnaaDoorSignRd
import Derived.Test.YtnmaclpjddafnaaDoorSignTa
namespace Go.Proofs.YtnmaclpjddafnaaDoor
open Go.RowKit
set_option linter.unusedVariables false
set_option linter.unusedSimpArgs false
/-- What is told. -/
def PaR (s : ByteArray) (e : Ending) (w' : World) : Prop := match parL s.data.toList with
  | some l => ∃ A c, e = .returned (.tuple #[.slice A l.length c, .int .i64 0]) ∧ CRow w' A l
  | none => e = .returned (.tuple #[.slice none 0 0, .int .i64 240])
theorem PaR.no {s : ByteArray} (h : parL s.data.toList = none) (w' : World) : PaR s (.returned (.tuple #[.slice none 0 0, .int .i64 240])) w' := by
  unfold PaR; rw [h]
theorem PaR.yes {s : ByteArray} {l : List Ch} (h : parL s.data.toList = some l) {A : Option Addr} {c : Nat} {w' : World} (hr : CRow w' A l) : PaR s (.returned (.tuple #[.slice A l.length c, .int .i64 0])) w' := by
  unfold PaR; rw [h]; exact ⟨A, c, rfl, hr⟩
theorem CRow.len {w : World} {A : Option Addr} {l : List Ch} (h : CRow w A l) : l.length ≤ maxLen := h.1
theorem bytes_list (s : ByteArray) (l : List UInt8) : bytes l = s ↔ l = s.data.toList := by
  constructor
  · rintro rfl; simp [bytes]
  · rintro rfl; rfl
theorem read_len {x : List UInt8} {q : RS} (h : rdL (rs0 []) x = some q) : q.l.length ≤ x.length := by
  have : ∀ (x : List UInt8) (q0 q : RS) (k : Nat), q0.ok k → rdL q0 x = some q → q.ok (k + x.length) := by
    intro x
    induction x with
    | nil => intro q0 q k h0 h; cases h; exact h0
    | cons b x ih =>
      intro q0 q k h0 h
      rw [rdL] at h
      cases hs : rdS q0 b.toNat with
      | none => rw [hs] at h; cases h
      | some q1 =>
        rw [hs] at h
        have := ih q1 q (k + 1) (rdS_ok h0 hs) h
        rw [List.length_cons]
        rwa [Nat.add_assoc, Nat.add_comm 1] at this
  have := (this x _ _ 0 rs0_ok h).l
  omega
set_option maxRecDepth 100000 in
set_option maxHeartbeats 4000000 in
theorem Parse_a (s : ByteArray) (w : World) (hs : s.size ≤ 90000) (hp : Pow w) :
    Calls Tryd.prog 12 #[.string s] w fun e w' => PaR s e w' ∧ Below w.heap.size w w' := by
  by_cases h45 : s = ⟨#[45]⟩
  · subst h45
    have HP : Hid (∀ w', PaR ⟨#[45]⟩ (.returned (.tuple #[.slice none 0 0, .int .i64 0])) w') := hide fun w' => PaR.yes (l := []) (by decide) ⟨Nat.zero_le _, fun h => absurd h (Nat.lt_irrefl 0)⟩
    clear hp hs
    go_enter Tryd.func12, Tryd.ntmps12
    go_wp2_with fail
    go_ret2
    exact ⟨HP.out _, Below.refl _ _⟩
  have R := hide (read_a s w (by omega))
  have e1 : (s ++ ⟨#[32]⟩ : ByteArray).data.toList = s.data.toList ++ [32] := by simp
  have e2 : parL s.data.toList = match rdL (rs0 []) (s.data.toList ++ [32]) with | some q => (if mayL q.l = true ∧ txtL q.l = s.data.toList then some q.l else none) | none => none := by
    have : ¬ s.data.toList = [45] := fun h => h45 (by rw [← (bytes_list s [45]).2 h.symm]; rfl)
    unfold parL readL
    rw [if_neg this]
    cases rdL (rs0 []) (s.data.toList ++ [32]) <;> rfl
  have hb : (s.toList == [45]) = false := by
    have : ¬ s.toList = [45] := fun h => h45 (by rw [ByteArray.toList_eq] at h; rw [← (bytes_list s [45]).2 h.symm]; rfl)
    simpa using this
  have HP := hide hp
  unfold RdR at R
  rw [e1] at R
  have HN := hide (fun w' h => PaR.no (s := s) h w')
  clear h45 e1 hp
  cases hq : rdL (rs0 []) (s.data.toList ++ [32]) with
  | none =>
    rw [hq] at R e2
    have HE := hide (HN.out · e2)
    clear hq e2
    go_enter Tryd.func12, Tryd.ntmps12
    go_wp2_with fail
    refine R.out.mono ?_
    rintro e w1 ⟨rfl, hb1⟩
    go_wp2_with fail
    go_ret2
    exact ⟨HE.out _, hb1⟩
  | some q =>
    rw [hq] at R e2
    have hl := read_len hq
    have hl2 : q.l.length ≤ 100000 := by
      have : s.data.toList.length = s.size := by simp
      rw [List.length_append, this] at hl
      simp at hl
      omega
    simp only at e2 R
    generalize q.l = l at *
    clear hq hl
    go_enter Tryd.func12, Tryd.ntmps12
    go_wp2_with fail
    refine R.out.mono ?_
    rintro e w1 ⟨⟨A, c, rfl, hr⟩, hb1⟩
    have HR := hide hr
    have HB1 := hide hb1
    have T := hide (Text_a A c l w1 hr hl2 (HP.out.below hb1 (Nat.le_refl _)))
    clear hr hb1 R
    go_wp2_with fail
    refine T.out.mono ?_
    rintro e w2 ⟨rfl, hb2⟩
    have HB2 := hide (HB1.out.trans (hb2.mono HB1.out.size))
    have HR2 := hide (HR.out.below hb2)
    clear hb2 T
    by_cases hm : mayL l = true
    · have t1 : txR l = txtL l := by unfold txR; rw [if_pos hm]
      have t2 : txE l = 0 := by unfold txE; rw [if_pos hm]
      rw [t1, t2]
      by_cases ht : bytes (txtL l) = s
      · rw [ht]
        rw [if_pos ⟨hm, (bytes_list s _).1 ht⟩] at e2
        have HE := hide (PaR.yes (c := c) e2 HR2.out)
        clear hm t1 t2 ht e2
        go_wp2_with fail
        go_ret2
        exact ⟨HE.out, HB2.out⟩
      · have b0 : ¬ (bytes (txtL l)).toList = s.toList := fun h => ht ((bytes_list s _).2 (by rw [ByteArray.toList_eq, ByteArray.toList_eq] at h; simpa [bytes] using h))
        have b1 : ((bytes (txtL l)).toList == s.toList) = false := by simpa using b0
        have b2 : ((bytes (txtL l)).toList != s.toList) = true := by simpa using b0
        clear b0
        rw [if_neg (fun h => ht ((bytes_list s _).2 h.2))] at e2
        have HE := hide (HN.out · e2)
        have HT := hide ht
        clear hm t1 t2 ht e2
        generalize bytes (txtL l) = X at *
        go_wp2_with fail
        go_ret2
        exact ⟨HE.out _, HB2.out⟩
    · have t2 : txE l = 2 := by unfold txE; rw [if_neg hm]
      rw [t2]
      rw [if_neg (fun h => hm h.1)] at e2
      have HE := hide (HN.out · e2)
      clear hm t2 e2
      go_wp2_with fail
      go_ret2
      exact ⟨HE.out _, HB2.out⟩
end Go.Proofs.YtnmaclpjddafnaaDoor
