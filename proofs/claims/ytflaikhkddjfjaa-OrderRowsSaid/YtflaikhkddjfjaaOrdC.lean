/- The program's Of. -/
import Derived.Test.YtflaikhkddjfjaaRows
import Derived.Test.YtflaikhkddjfjaaOrdB
import Derived.LoopN
namespace Go.Proofs.Ytflaikhkddjfjaa
open Go Go.RowKit
set_option linter.unusedVariables false
set_option linter.unusedSimpArgs false
namespace Ord
/-- Each rank's last event, by the program's row. -/
def lst (n : Nat) (E : Nat → Ev) : Nat → List Int
  | 0 => List.replicate n (-1)
  | i + 1 => (lst n E i).set (E i).r (i : Int)
theorem lst_len (n : Nat) (E : Nat → Ev) : ∀ i, (lst n E i).length = n
  | 0 => by simp [lst]
  | i + 1 => by rw [lst, List.length_set]; exact lst_len n E i
theorem lst_spec {n : Nat} {E : Nat → Ev} : ∀ (i q : Nat), q < n → ((lst n E i).getD q 0 = -1 ∧ ∀ m, m < i → (E m).r ≠ q) ∨ ∃ k, k < i ∧ (lst n E i).getD q 0 = (k : Int) ∧ (E k).r = q ∧ ∀ m, m < i → (E m).r = q → m ≤ k
  | 0, q, hq => .inl ⟨by rw [lst, List.getD_eq_getElem?_getD, List.getElem?_replicate, if_pos hq]; rfl, fun m hm => absurd hm (Nat.not_lt_zero m)⟩
  | i + 1, q, hq => by
    have hg : (lst n E (i + 1)).getD q 0 = if (E i).r = q then (i : Int) else (lst n E i).getD q 0 := by
      rw [lst, List.getD_eq_getElem?_getD, List.getElem?_set]
      by_cases h : (E i).r = q
      · rw [if_pos h, if_pos h, if_pos (by rw [lst_len, h]; exact hq)]
        rfl
      · rw [if_neg h, if_neg h, List.getD_eq_getElem?_getD]
    rw [hg]
    by_cases h : (E i).r = q
    · rw [if_pos h]
      exact .inr ⟨i, by omega, rfl, h, fun m hm _ => by omega⟩
    · rw [if_neg h]
      rcases lst_spec (n := n) (E := E) i q hq with ⟨h1, h2⟩ | ⟨k, h1, h2, h3, h4⟩
      · refine .inl ⟨h1, fun m hm => ?_⟩
        by_cases e : m = i
        · rw [e]; exact h
        · exact h2 m (by omega)
      · refine .inr ⟨k, by omega, h2, h3, fun m hm hr => ?_⟩
        by_cases e : m = i
        · rw [e] at hr; exact absurd hr h
        · exact h4 m (by omega) hr
def lastL (n : Nat) (E : Nat → Ev) (i : Nat) : List Nat := if 0 ≤ (lst n E i).getD (E i).r 0 then [((lst n E i).getD (E i).r 0).toNat] else []
def aheadL (n : Nat) (E : Nat → Ev) (i : Nat) : List Nat := (E i).af ++ lastL n E i
theorem ahead_of {n : Nat} {E : Nat → Ev} {i : Nat} (hr : (E i).r < n) (ha : ∀ k ∈ (E i).af, k < i) : AheadOf E i (aheadL n E i) := by
  have hs := lst_spec (n := n) (E := E) i (E i).r hr
  unfold aheadL lastL
  refine ⟨fun k hk => ?_, fun k hk _ => List.mem_append_left _ hk, fun m hm hrm => ?_⟩
  · rcases List.mem_append.1 hk with hk | hk
    · exact ⟨ha k hk, .inr hk⟩
    · rcases hs with ⟨h1, h2⟩ | ⟨j, h1, h2, h3, h4⟩
      · rw [h1] at hk
        simp at hk
      · rw [h2, if_pos (by omega)] at hk
        have e : k = j := by simpa using hk
        rw [e]
        exact ⟨h1, .inl h3⟩
  · rcases hs with ⟨h1, h2⟩ | ⟨j, h1, h2, h3, h4⟩
    · exact absurd hrm (h2 m hm)
    · refine ⟨j, List.mem_append_right _ ?_, h3, h4 m hm hrm⟩
      rw [h2, if_pos (by omega)]
      simp
theorem ahead_lt {n : Nat} {E : Nat → Ev} {i : Nat} (hr : (E i).r < n) (ha : ∀ k ∈ (E i).af, k < i) : ∀ k ∈ aheadL n E i, k < i := fun k hk => ((ahead_of hr ha).1 k hk).1
/-- Events as the program puts them together. -/
inductive Grow (n : Nat) (E : Nat → Ev) : List Eo → Prop
  | nil : Grow n E []
  | snoc {es : List Eo} {x : Eo} : Grow n E es → (E es.length).r < n → (∀ k ∈ (E es.length).af, k < es.length) → x.r = (E es.length).r → x.ah = aheadL n E es.length → x.ck = tickL (foldM es (List.replicate n 0) x.ah) x.r → x.d = foldD es 1 x.ah → Grow n E (es ++ [x])
theorem tick_ck {n b q : Nat} {c : List Int} (h : Ck n b c) (h1 : 1 ≤ n) (h2 : n ≤ 64) (hb : b ≤ 1000) (hq : q < n) : Ck n (b + 1) (tickL c q) ∧ ∀ j, (tickL c q).getD j 0 = c.getD j 0 + (if q = j then 1 else 0) := by
  have T := ticks q (h.may h1 h2 (by omega)) (by rw [h.1]; exact hq) (by have := (h.2 q).2; omega)
  have at_ : ∀ j, (tickL c q).getD j 0 = c.getD j 0 + (if q = j then 1 else 0) := fun j => by
    rw [T.2, List.getD_eq_getElem?_getD, List.getElem?_set]
    by_cases e : q = j
    · subst e
      rw [if_pos rfl, if_pos rfl, if_pos (by rw [h.1]; exact hq)]
      rfl
    · rw [if_neg e, if_neg e, List.getD_eq_getElem?_getD]
      omega
  refine ⟨⟨by rw [T.2, List.length_set]; exact h.1, fun j => ?_⟩, at_⟩
  rw [at_]
  have := h.2 j
  split <;> omega
theorem Grow.fit {n : Nat} {E : Nat → Ev} {es : List Eo} (h : Grow n E es) (h1 : 1 ≤ n) (h2 : n ≤ 64) : es.length ≤ 120 → Fit n es := by
  induction h with
  | nil => exact fun _ => ⟨h1, h2, fun x hx => (by cases hx), fun x hx => (by cases hx), by simp⟩
  | @snoc es x hg hr ha hxr hxa hxc hxd ih =>
    intro hle
    rw [List.length_append, List.length_singleton] at hle
    have F := ih (by omega)
    have hlt := ahead_lt hr ha
    rw [← hxa] at hlt
    have C := tick_ck (foldM_ck F x.ah _ hlt (zeros_ck n _)) h1 h2 (by omega) (show x.r < n by rw [hxr]; exact hr)
    have D := foldD_le F x.ah 1 hlt (by omega)
    refine ⟨h1, h2, fun y hy => ?_, fun y hy => ?_, by rw [List.length_append, List.length_singleton]; exact hle⟩
    · rw [List.length_append, List.length_singleton]
      rcases List.mem_append.1 hy with hy | hy
      · obtain ⟨a, b⟩ := F.ck y hy
        exact ⟨a, fun q => by have := b q; omega⟩
      · rw [List.mem_singleton.1 hy, hxc]
        exact C.1
    · rw [List.length_append, List.length_singleton]
      rcases List.mem_append.1 hy with hy | hy
      · have := F.d y hy; omega
      · rw [List.mem_singleton.1 hy, hxd]
        exact D
set_option maxRecDepth 100000 in
set_option maxHeartbeats 2000000 in
theorem clone_i (A : Option Addr) (cap B : Nat) (l : List Int) (w : World) (h : Rd w B A l) (hB : B ≤ w.heap.size) (hl : l.length ≤ 1000) :
    Calls Try.prog 36 #[.slice A l.length cap] w fun e w' => ∃ v, e = .returned v ∧ w'.ownsRow w.heap.size 3 1 v l.length (ints l) ∧ Below w.heap.size w w' := by
  obtain ⟨i0, hi0, hz0, hz1, hz2⟩ := info_parts int_info
  have HI := hide (And.intro hi0 (And.intro hz0 (And.intro hz1 hz2)))
  clear hi0 hz0 hz1 hz2
  cases A with
  | none =>
    have hl0 : l = [] := by
      rcases Nat.eq_zero_or_pos l.length with h0 | h0
      · exact List.eq_nil_of_length_eq_zero h0
      · obtain ⟨a, ha, _⟩ := h.2 h0
        cases ha
    subst hl0
    clear h
    have q := fun (w : World) => Lib.run_eql_slice_nil (P := Try.prog) w 28 3 none 0 cap 0 0 Try.underlying28
    simp only [Option.isNone_none] at q
    go_enter Try.func36, Try.ntmps36
    go_wp2_with fail
    go_ret
    exact ⟨_, rfl, ⟨rfl, .inl ⟨rfl, rfl⟩⟩, Below.refl _ _⟩
  | some a =>
    have RD := hide h
    have HO := hide (ints_one l)
    have own0 : Hid ((w.alloc (.cells #[] 3)).ownsRow w.heap.size 3 1 (.slice (some ⟨w.heap.size, 0, none⟩) 0 0) 0 []) := hide ⟨rfl, .inr ⟨w.heap.size, 0, #[], rfl, Nat.le_refl _, heap_alloc_new w _, Nat.le_refl _, by unfold maxLen; omega, rfl, rfl⟩⟩
    have hBI := hide hB
    clear h hB
    have q := fun (w : World) => Lib.run_eql_slice_nil (P := Try.prog) w 28 3 (some a) l.length cap 0 0 Try.underlying28
    simp only [Option.isNone_some] at q
    go_enter Try.func36, Try.ntmps36
    go_wp2_with (at_builtin; refine wpList_append_any _ rfl _ _ 28 rfl w.heap.size 3 i0 (.int .i64 0) 1 8 Try.underlying28 HI.out.1 HI.out.2.1 HI.out.2.2.1 HI.out.2.2.2 rfl (by decide) (.slice (some ⟨w.heap.size, 0, none⟩) 0 0) 0 [] rfl own0.out B (some a) l.length cap (ints l) rfl (RD.out.alloc hBI.out _) HO.out ?k1 ?k2 ?k3 ?_)
    case k1 => unfold maxLen; omega
    case k2 => omega
    case k3 => simp
    intro v' w1 hown hgrow _
    have Own := hide hown
    have HG := hide hgrow
    clear hown hgrow
    go_wp2_with fail
    go_ret
    refine ⟨_, rfl, by simpa using Own.out, ?_⟩
    exact ((Below.refl _ _).alloc (Nat.le_refl _) _).grown HG.out (by simp) (fun k hk => by cases hk; exact Nat.le_refl _)
/-- The events in plain numbers. -/
def evN (F : Nat → Ec) (i : Nat) : Ev := ⟨(F i).r.toNat, (F i).af.map Int.toNat⟩
def okTo (n : Int) (F : Nat → Ec) (k : Nat) : Prop := ∀ i, i < k → mayE n i (F i).r (F i).af = true
theorem mayE_ev {n i : Nat} {F : Nat → Ec} (h : mayE n i (F i).r (F i).af = true) : (F i).r = ((evN F i).r : Int) ∧ (evN F i).r < n ∧ (F i).af = natI (evN F i).af ∧ ∀ k ∈ (evN F i).af, k < i := by
  obtain ⟨h1, h2, h3⟩ := of_decide_eq_true h
  refine ⟨(Int.toNat_of_nonneg h1).symm, ?_, ?_, fun k hk => ?_⟩
  · show (F i).r.toNat < n
    omega
  · show (F i).af = ((F i).af.map Int.toNat).map fun (x : Nat) => (x : Int)
    rw [List.map_map]
    conv => lhs; rw [← List.map_id (F i).af]
    refine List.map_congr_left fun k hk => ?_
    have := h3 k hk
    show k = ((k.toNat : Nat) : Int)
    omega
  · obtain ⟨z, hz, rfl⟩ := List.mem_map.1 hk
    have := h3 z hz
    omega
end Ord
end Go.Proofs.Ytflaikhkddjfjaa
