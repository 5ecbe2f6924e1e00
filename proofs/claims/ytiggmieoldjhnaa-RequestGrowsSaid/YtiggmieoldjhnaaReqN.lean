/- What is left, as a row of numbers. No program's text. -/
import Derived.Test.YtiggmieoldjhnaaRows
import Derived.Test.YtiggmieoldjhnaaReqM
namespace Go.Proofs.Ytiggmieoldjhnaa
open Go Go.RowKit Go.Proofs.Ytiggmieoldjhnaa.Grp
set_option linter.unusedVariables false
namespace Req
theorem mem_leftN (rs : List Rq) (x : Int) : ∀ n, x ∈ leftN rs n ↔ 0 ≤ x ∧ x < n ∧ (rs.getD x.toNat default).gone = false
  | 0 => ⟨fun h => by simp [leftN] at h, fun h => by omega⟩
  | n + 1 => by
    rw [leftN, List.mem_append, mem_leftN rs x n]
    constructor
    · rintro (h | h)
      · exact ⟨h.1, by omega, h.2.2⟩
      · cases hg : (rs.getD n default).gone with
        | true => rw [hg] at h; simp at h
        | false =>
          rw [hg] at h
          have e : x = (n : Int) := by simpa using h
          subst e
          exact ⟨by omega, by omega, by rw [Int.toNat_natCast]; exact hg⟩
    · rintro ⟨h0, h1, h2⟩
      by_cases hx : x < n
      · exact .inl ⟨h0, hx, h2⟩
      · have e : x = (n : Int) := by omega
        subst e
        rw [Int.toNat_natCast] at h2
        exact .inr (by rw [h2]; simp)
theorem here_iff (rs : List Rq) (x : Int) : here rs x ↔ x ∈ leftN rs rs.length := (mem_leftN rs x rs.length).symm
theorem leftN_app (rs : List Rq) (q : Rq) : ∀ n, n ≤ rs.length → leftN (rs ++ [q]) n = leftN rs n
  | 0, _ => rfl
  | n + 1, h => by
    rw [leftN, leftN, leftN_app rs q n (by omega)]
    congr 2
    rw [List.getD_eq_getElem?_getD, List.getD_eq_getElem?_getD, List.getElem?_append_left (by omega)]
theorem leftN_add (rs : List Rq) (q : Rq) (hq : q.gone = false) : leftN (rs ++ [q]) (rs ++ [q]).length = leftN rs rs.length ++ [(rs.length : Int)] := by
  rw [List.length_append, List.length_singleton, leftN, leftN_app rs q rs.length (Nat.le_refl _)]
  congr 1
  rw [List.getD_eq_getElem?_getD, List.getElem?_append_right (Nat.le_refl _)]
  simp [hq]
theorem takR_gone (is : List Nat) : ∀ (rs : List Rq) (i : Nat), i < rs.length → ((takR rs is).getD i default).gone = ((rs.getD i default).gone || decide (i ∈ is)) := by
  induction is with
  | nil => intro rs i hi; simp [takR]
  | cons j is ih =>
    intro rs i hi
    show ((takR (rs.set j (rs.getD j default).taken) is).getD i default).gone = _
    rw [ih _ i (by rw [List.length_set]; exact hi)]
    by_cases hij : j = i
    · subst hij
      rw [List.getD_eq_getElem?_getD, List.getElem?_set_self hi]
      simp [Rq.taken]
    · rw [List.getD_eq_getElem?_getD, List.getElem?_set_ne hij, ← List.getD_eq_getElem?_getD]
      have : (i ∈ j :: is) ↔ i ∈ is := by simp [Ne.symm hij]
      simp only [this]
theorem takR_done (is : List Nat) : ∀ (rs : List Rq), (∀ q ∈ rs, q.done = true) → ∀ q ∈ takR rs is, q.done = true := by
  induction is with
  | nil => intro rs h; exact h
  | cons j is ih =>
    intro rs h
    refine ih _ fun q hq => ?_
    replace hq : q ∈ rs.set j (rs.getD j default).taken := hq
    by_cases hj : j < rs.length
    · rcases List.mem_or_eq_of_mem_set hq with h9 | rfl
      · exact h q h9
      · rw [pick_rq hj]
        exact h rs[j] (List.getElem_mem hj)
    · rw [List.set_eq_of_length_le (by omega)] at hq
      exact h q hq
theorem leftN_tak (rs : List Rq) (l : List Int) (hl : ∀ x ∈ l, 0 ≤ x) : ∀ n, n ≤ rs.length → leftN (takR rs (l.map Int.toNat)) n = withoutL (leftN rs n) l
  | 0, _ => rfl
  | n + 1, h => by
    rw [leftN, leftN, leftN_tak rs l hl n (by omega)]
    unfold withoutL
    rw [List.filter_append]
    congr 1
    rw [takR_gone _ rs n (by omega)]
    have hm : n ∈ l.map Int.toNat ↔ (n : Int) ∈ l := by
      rw [List.mem_map]
      constructor
      · rintro ⟨x, hx, e⟩
        have := hl x hx
        rw [show (n : Int) = x by omega]
        exact hx
      · intro hx
        exact ⟨_, hx, by simp⟩
    cases (rs.getD n default).gone with
    | true => simp
    | false =>
      by_cases hx : (n : Int) ∈ l
      · simp [hx, hm]
      · simp [hx, hm]
theorem take_all (rs : List Rq) (l : List Int) (hd : ∀ q ∈ rs, q.done = true) : takeOk rs l ↔ allT (leftN rs rs.length) l := by
  constructor
  · rintro ⟨⟨h1, h2, h3, h4⟩, _⟩
    exact ⟨h1, h2, fun x hx => (here_iff rs x).1 (h3 x hx), h4⟩
  · rintro ⟨h1, h2, h3, h4⟩
    have hh : ∀ x ∈ l, here rs x := fun x hx => (here_iff rs x).2 (h3 x hx)
    refine ⟨⟨h1, h2, hh, h4⟩, fun x hx => ?_⟩
    obtain ⟨h5, h6, _⟩ := hh x hx
    rw [pick_rq (show x.toNat < rs.length by omega)]
    exact hd _ (List.getElem_mem _)
theorem mayE_one (rs : List Rq) (k : Int) : mayE rs [k] = if k ∈ leftN rs rs.length then 0 else 120 := by
  unfold mayE
  have : okT rs [k] ↔ k ∈ leftN rs rs.length := by
    rw [← here_iff]
    constructor
    · rintro ⟨_, _, h, _⟩
      exact h k (by simp)
    · intro h
      exact ⟨by simp, by simp, fun x hx => by rw [List.mem_singleton.1 hx]; exact h, by simp⟩
  simp only [this]
theorem mayE_two (rs : List Rq) (k : Int) : mayE rs [k, k] = 120 := if_neg fun h => by have := h.2.2.2; simp at this
end Req
end Go.Proofs.Ytiggmieoldjhnaa
