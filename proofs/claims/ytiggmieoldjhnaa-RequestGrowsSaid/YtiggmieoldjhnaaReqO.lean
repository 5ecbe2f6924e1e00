/- What Which tells, as a row of numbers: it only grows where none of the row is taken. No program's text. -/
import Derived.Test.YtiggmieoldjhnaaRows
import Derived.Test.YtiggmieoldjhnaaReqN
namespace Go.Proofs.Ytiggmieoldjhnaa
open Go Go.RowKit Go.Proofs.Ytiggmieoldjhnaa.Grp
set_option linter.unusedVariables false
namespace Req
/-- A number whose request is there, complete and not taken. -/
def okp (rs : List Rq) (x : Int) : Prop := here rs x ∧ (rs.getD x.toNat default).done = true
/-- What Which tells. -/
def nowL (rs : List Rq) (l : List Int) : List Int := whL rs (askL rs.length l l.length)
theorem nowL_len (rs : List Rq) (l : List Int) : (nowL rs l).length ≤ l.length := Nat.le_trans (whL_len _ _) (askL_len _ _ _)
theorem whL_step (rs : List Rq) (l : List Int) (k : Nat) (hk : k < l.length) :
    (okp rs (l.getD k 0) ∧ whL rs (askL rs.length l (k + 1)) = whL rs (askL rs.length l k) ++ [(k : Int)]) ∨ (¬ okp rs (l.getD k 0) ∧ whL rs (askL rs.length l (k + 1)) = whL rs (askL rs.length l k)) := by
  by_cases hz : 0 ≤ l.getD k 0 ∧ l.getD k 0 < rs.length
  · obtain ⟨y, hy⟩ : ∃ y : Nat, l.getD k 0 = (y : Int) := ⟨(l.getD k 0).toNat, by omega⟩
    have hyl : y < rs.length := by omega
    rw [askL_yes hk hyl hy, whL_snoc]
    have e9 : okp rs (l.getD k 0) ↔ ((rs.getD y default).done = true ∧ (rs.getD y default).gone = false) := by
      rw [hy]
      unfold okp here
      rw [Int.toNat_natCast]
      constructor
      · rintro ⟨⟨_, _, h1⟩, h2⟩
        exact ⟨h2, h1⟩
      · rintro ⟨h2, h1⟩
        exact ⟨⟨by omega, by omega, h1⟩, h2⟩
    by_cases hc : (rs.getD y default).done = true ∧ (rs.getD y default).gone = false
    · exact .inl ⟨e9.2 hc, by rw [if_pos hc]⟩
    · exact .inr ⟨fun h => hc (e9.1 h), by rw [if_neg hc, List.append_nil]⟩
  · rw [askL_no hz]
    exact .inr ⟨fun h => hz ⟨h.1.1, h.1.2.1⟩, rfl⟩
theorem mem_wh (rs : List Rq) (l : List Int) (x : Int) : ∀ k, k ≤ l.length → (x ∈ whL rs (askL rs.length l k) ↔ 0 ≤ x ∧ x < k ∧ okp rs (l.getD x.toNat 0))
  | 0, _ => ⟨fun h => by simp [askL, whL] at h, fun h => by omega⟩
  | k + 1, hk => by
    have ih := mem_wh rs l x k (by omega)
    rcases whL_step rs l k (by omega) with ⟨h1, h2⟩ | ⟨h1, h2⟩
    · rw [h2, List.mem_append, ih, List.mem_singleton]
      constructor
      · rintro (⟨a, b, c⟩ | rfl)
        · exact ⟨a, by omega, c⟩
        · exact ⟨by omega, by omega, by rw [Int.toNat_natCast]; exact h1⟩
      · rintro ⟨a, b, c⟩
        by_cases hx : x < k
        · exact .inl ⟨a, hx, c⟩
        · exact .inr (by omega)
    · rw [h2, ih]
      constructor
      · rintro ⟨a, b, c⟩
        exact ⟨a, by omega, c⟩
      · rintro ⟨a, b, c⟩
        by_cases hx : x < k
        · exact ⟨a, hx, c⟩
        · exact absurd (by rw [show x = (k : Int) by omega, Int.toNat_natCast] at c; exact c) h1
theorem wh_rise (rs : List Rq) (l : List Int) : ∀ k, k ≤ l.length → (whL rs (askL rs.length l k)).Pairwise (· < ·)
  | 0, _ => by simp [askL, whL]
  | k + 1, hk => by
    have ih := wh_rise rs l k (by omega)
    rcases whL_step rs l k (by omega) with ⟨h1, h2⟩ | ⟨h1, h2⟩
    · rw [h2, List.pairwise_append]
      refine ⟨ih, List.pairwise_singleton _ _, fun a ha b hb => ?_⟩
      rw [List.mem_singleton.1 hb]
      exact ((mem_wh rs l a k (by omega)).1 ha).2.1
    · rw [h2]; exact ih
theorem mem_now (rs : List Rq) (l : List Int) (x : Int) : x ∈ nowL rs l ↔ 0 ≤ x ∧ x < l.length ∧ okp rs (l.getD x.toNat 0) := mem_wh rs l x l.length (Nat.le_refl _)
theorem now_range (rs : List Rq) (l : List Int) (n : Nat) (hn : n < (nowL rs l).length) : 0 ≤ (nowL rs l).getD n 0 ∧ (nowL rs l).getD n 0 < l.length := by
  have h := (mem_now rs l _).1 (Grp.getD_mem hn)
  exact ⟨h.1, h.2.1⟩
theorem now_rise (rs : List Rq) (l : List Int) (n : Nat) (hn : n + 1 < (nowL rs l).length) : (nowL rs l).getD n 0 < (nowL rs l).getD (n + 1) 0 := by
  have h := List.pairwise_iff_getElem.1 (wh_rise rs l l.length (Nat.le_refl _)) n (n + 1) (show n < (nowL rs l).length by omega) hn (by omega)
  rw [List.getD_eq_getElem?_getD, List.getD_eq_getElem?_getD, List.getElem?_eq_getElem hn, List.getElem?_eq_getElem (show n < (nowL rs l).length by omega)]
  exact h
/-- What holds of all of the row's numbers holds of what Which tells. -/
theorem now_grows {rs rs' : List Rq} {l : List Int} (h : ∀ x ∈ l, okp rs x → okp rs' x) : withoutL (nowL rs l) (nowL rs' l) = [] := by
  unfold withoutL
  rw [List.filter_eq_nil_iff]
  intro x hx
  obtain ⟨h0, h1, h2⟩ := (mem_now rs l x).1 hx
  have : x ∈ nowL rs' l := (mem_now rs' l x).2 ⟨h0, h1, h _ (Grp.getD_mem (by omega)) h2⟩
  simp [this]
theorem now_none (l : List Int) : nowL [] l = [] := by
  rw [List.eq_nil_iff_forall_not_mem]
  intro x hx
  have := ((mem_now [] l x).1 hx).2.2.1
  have h1 := this.1
  have h2 : List.getD l x.toNat 0 < ((0 : Nat) : Int) := this.2.1
  omega
theorem okp_add {rs : List Rq} (q : Rq) {x : Int} (h : okp rs x) : okp (rs ++ [q]) x := by
  obtain ⟨⟨h0, h1, h2⟩, h3⟩ := h
  have e : (rs ++ [q]).getD x.toNat default = rs.getD x.toNat default := by
    rw [List.getD_eq_getElem?_getD, List.getD_eq_getElem?_getD, List.getElem?_append_left (by omega)]
  exact ⟨⟨h0, by rw [List.length_append]; omega, by rw [e]; exact h2⟩, by rw [e]; exact h3⟩
theorem okp_full {rs : List Rq} {y : Nat} (hy : y < rs.length) (v p t : Int) {x : Int} (h : okp rs x) : okp (rs.set y (rs[y].full v p t)) x := by
  obtain ⟨⟨h0, h1, h2⟩, h3⟩ := h
  by_cases e : y = x.toNat
  · subst e
    have e2 : (rs.set x.toNat (rs[x.toNat].full v p t)).getD x.toNat default = rs[x.toNat].full v p t := by
      rw [List.getD_eq_getElem?_getD, List.getElem?_set_self hy]; rfl
    rw [pick_rq hy] at h2 h3
    exact ⟨⟨h0, by rw [List.length_set]; exact h1, by rw [e2]; exact h2⟩, by rw [e2]; rfl⟩
  · have e2 : (rs.set y (rs[y].full v p t)).getD x.toNat default = rs.getD x.toNat default := by
      rw [List.getD_eq_getElem?_getD, List.getElem?_set_ne e, ← List.getD_eq_getElem?_getD]
    exact ⟨⟨h0, by rw [List.length_set]; exact h1, by rw [e2]; exact h2⟩, by rw [e2]; exact h3⟩
theorem takR_dn (is : List Nat) : ∀ (rs : List Rq) (i : Nat), ((takR rs is).getD i default).done = (rs.getD i default).done := by
  induction is with
  | nil => intro rs i; rfl
  | cons j is ih =>
    intro rs i
    show ((takR (rs.set j (rs.getD j default).taken) is).getD i default).done = _
    rw [ih]
    by_cases hij : j = i
    · subst hij
      by_cases hj : j < rs.length
      · rw [List.getD_eq_getElem?_getD, List.getElem?_set_self hj]; rfl
      · rw [List.set_eq_of_length_le (by omega)]
    · rw [List.getD_eq_getElem?_getD, List.getElem?_set_ne hij, ← List.getD_eq_getElem?_getD]
theorem okp_take {rs : List Rq} {tk : List Int} (h0 : ∀ y ∈ tk, 0 ≤ y) {x : Int} (hx : ¬ x ∈ tk) (h : okp rs x) : okp (takR rs (tk.map Int.toNat)) x := by
  obtain ⟨⟨a0, a1, a2⟩, a3⟩ := h
  refine ⟨⟨a0, by rw [takR_len]; exact a1, ?_⟩, by rw [takR_dn]; exact a3⟩
  rw [takR_gone _ rs x.toNat (by omega), a2]
  have : ¬ x.toNat ∈ tk.map Int.toNat := fun hm => by
    obtain ⟨y, hy, e⟩ := List.mem_map.1 hm
    have := h0 y hy
    rw [show x = y by omega] at hx
    exact hx hy
  simp [this]
/-- As many are without as are: none of them is in the other. -/
theorem without_all {l some_ : List Int} (h : (withoutL l some_).length = l.length) : ∀ x ∈ l, ¬ x ∈ some_ := by
  intro x hx hm
  have := (List.length_filter_eq_length_iff.1 h) x hx
  simp [hm] at this
end Req
end Go.Proofs.Ytiggmieoldjhnaa
