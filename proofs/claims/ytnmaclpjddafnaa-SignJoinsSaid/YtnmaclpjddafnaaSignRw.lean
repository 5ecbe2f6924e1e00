/- A row of choices that the call owns: its cells, and that it is read as a row. -/
import Derived.Test.YtnmaclpjddafnaaRows
import Derived.Test.YtnmaclpjddafnaaSignP
namespace Go.Proofs.Ytnmaclpjddafnaa
open Go.RowKit
set_option linter.unusedVariables false
set_option linter.unusedSimpArgs false
def chC (t : Ch) : List Value := [.int .i64 t.r, .int .i64 t.c, .int .i64 t.f, .int .i64 t.s, .int .i64 t.v]
def chs (l : List Ch) : List Value := l.flatMap chC
theorem chC_len (t : Ch) : (chC t).length = 5 := rfl
theorem chs_cons (t : Ch) (l : List Ch) : chs (t :: l) = chC t ++ chs l := rfl
theorem chs_len : ∀ l : List Ch, (chs l).length = l.length * 5
  | [] => rfl
  | t :: l => by
    have := chs_len l
    rw [chs_cons, List.length_append, chC_len, List.length_cons]
    omega
theorem chs_app (a b : List Ch) : chs (a ++ b) = chs a ++ chs b := by simp [chs]
theorem chs_one (t : Ch) : chs [t] = chC t := by simp [chs]
theorem chs_at : ∀ (l : List Ch) (i : Nat) (hi : i < l.length) (j : Nat), j < 5 → (chs l)[i * 5 + j]? = (chC l[i])[j]?
  | t :: l, 0, _, j, hj => by
    rw [chs_cons, List.getElem?_append_left (by rw [chC_len]; omega)]
    simp
  | t :: l, i + 1, hi, j, hj => by
    have e : (i + 1) * 5 + j = (chC t).length + (i * 5 + j) := by rw [chC_len]; omega
    rw [chs_cons, e, List.getElem?_append_right (by omega), Nat.add_sub_cancel_left]
    exact chs_at l i (by simpa using hi) j hj
theorem chs_take : ∀ (l : List Ch) (n : Nat), (chs l).take (n * 5) = chs (l.take n)
  | [], n => by simp [chs]
  | t :: l, 0 => by simp [chs]
  | t :: l, n + 1 => by
    rw [chs_cons, List.take_succ_cons, chs_cons, Nat.add_mul, Nat.one_mul, Nat.add_comm, ← chC_len t, List.take_length_add_append, chC_len, chs_take l n]
theorem chs_drop : ∀ (l : List Ch) (n : Nat), (chs l).drop (n * 5) = chs (l.drop n)
  | [], n => by simp [chs]
  | t :: l, 0 => by simp [chs]
  | t :: l, n + 1 => by
    rw [chs_cons, List.drop_succ_cons, Nat.add_mul, Nat.one_mul, Nat.add_comm, ← chC_len t, List.drop_length_add_append, chC_len, chs_drop l n]
theorem chs_one' (l : List Ch) : ∀ u ∈ chs l, u.oneCell' = true := by
  intro u hu
  obtain ⟨t, _, ht⟩ := List.mem_flatMap.1 hu
  simp only [chC, List.mem_cons, List.not_mem_nil, or_false] at ht
  rcases ht with rfl | rfl | rfl | rfl | rfl <;> rfl
def chZ : Value := .agg #[.int .i64 0, .int .i64 0, .int .i64 0, .int .i64 0, .int .i64 0]
theorem ch_info : (Try.prog.info? 24).map (fun i => (i.zero, i.size, i.bytes)) = some (some chZ, 5, 40) := by kernel_rfl
theorem int_info : (Try.prog.info? 3).map (fun i => (i.zero, i.size, i.bytes)) = some (some (.int .i64 0), 1, 8) := by kernel_rfl
theorem add_lit (g n : Nat) : (⟨g, 0, none⟩ : Addr).add n = ⟨g, n, none⟩ := by unfold Addr.add; split <;> simp_all
theorem own_crow {w : World} {B : Nat} {v : Value} {l : List Ch} (h : w.ownsRow B 24 5 v l.length (chs l)) (hok : ∀ i (hi : i < l.length), (l[i]).ok) (hl : l.length ≤ maxLen) :
    ∃ A c, v = .slice A l.length c ∧ CRow w A l := by
  rcases h.2 with ⟨rfl, h0⟩ | ⟨g, cap, cur, rfl, hge, hh, hnc, _, hcs, htk⟩
  · exact ⟨none, 0, by rw [h0], hl, fun h => by omega⟩
  · refine ⟨_, cap, rfl, hl, fun h0 => ⟨⟨g, 0, none⟩, rfl, (Array.getElem?_eq_some_iff.1 hh).1, fun i hi => ⟨hok i hi, ?_⟩⟩⟩
    have hc : ∀ j u, j < 5 → (chC l[i])[j]? = some u → w.cell? ⟨g, i * 5 + j, none⟩ = some u := fun j u hj hu => by
      have e := chs_at l i hi j hj
      rw [hu, ← htk, List.getElem?_take] at e
      split at e
      · rw [Blk.cell (show Blk w g _ cur from hh)]
        simpa using e
      · cases e
    unfold ChAt
    rw [add_lit]
    exact ⟨hc 0 _ (by omega) rfl, hc 1 _ (by omega) rfl, hc 2 _ (by omega) rfl, hc 3 _ (by omega) rfl, hc 4 _ (by omega) rfl⟩
/-- Two rows of unlike elements are not one. -/
theorem own_apart {w : World} {B C size size' n m : Nat} {e e' : TypeId} {v u : Value} {xs ys : List Value} (h : w.ownsRow B e size v n xs) (h' : w.ownsRow C e' size' u m ys) (hne : e ≠ e') :
    ∀ g, v.ownBlock = some g → u.ownBlock ≠ some g := by
  intro g hg hg'
  rcases h.2 with ⟨rfl, _⟩ | ⟨g1, cap, cur, rfl, _, hh, _⟩
  · simp [Value.ownBlock] at hg
  · rcases h'.2 with ⟨rfl, _⟩ | ⟨g2, cap', cur', rfl, _, hh', _⟩
    · simp [Value.ownBlock] at hg'
    · obtain rfl : g1 = g := by simpa [Value.ownBlock] using hg
      obtain rfl : g2 = g1 := by simpa [Value.ownBlock] using hg'
      rw [hh] at hh'
      injection hh' with hh'
      injection hh' with _ ht
      exact hne ht
/-- A row stays that what is written isn't its own. -/
theorem own_far {w w' : World} {B size n : Nat} {e : TypeId} {v : Value} {xs : List Value} {row : Option Nat} (h : w.ownsRow B e size v n xs) (hg : w.grownBy w' row) (hne : ∀ g, v.ownBlock = some g → some g ≠ row) : w'.ownsRow B e size v n xs := by
  refine ⟨h.1, h.2.imp id ?_⟩
  rintro ⟨g, cap, cur, rfl, hge, hh, r⟩
  exact ⟨g, cap, cur, rfl, hge, (hg.block g (Array.getElem?_eq_some_iff.1 hh).1 (hne g rfl)).trans hh, r⟩
end Go.Proofs.Ytnmaclpjddafnaa
