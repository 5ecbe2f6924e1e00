/- The contracts of Tick, of the program and of the chapter. -/
import Derived.Test.YtjmidldmhmhbnaaClockB
namespace Go.Proofs.Ytjmidldmhmhbnaa
open Go.RowKit
set_option linter.unusedVariables false
set_option linter.unusedSimpArgs false

def tickOk (l : List Int) (r : Int) : Bool := mayB l && decide (0 ≤ r ∧ r < l.length ∧ l.getD r.toNat 0 < 1099511627776)
def tickL (l : List Int) (r : Int) : List Int := if tickOk l r then l.set r.toNat (l.getD r.toNat 0 + 1) else []
def tickE (l : List Int) (r : Int) : Int := if tickOk l r then 0 else 2
theorem tick_yes {l : List Int} {r : Int} (h : tickOk l r = true) : tickL l r = l.set r.toNat (l.getD r.toNat 0 + 1) ∧ tickE l r = 0 := by simp [tickL, tickE, h]
theorem tick_no {l : List Int} {r : Int} (h : tickOk l r = false) : tickL l r = [] ∧ tickE l r = 2 := by simp [tickL, tickE, h]
theorem tickOk_may {l : List Int} {r : Int} (h : mayB l = false) : tickOk l r = false := by simp [tickOk, h]
theorem tickOk_no {l : List Int} {r : Int} (h : ¬ (0 ≤ r ∧ r < l.length ∧ l.getD r.toNat 0 < 1099511627776)) : tickOk l r = false := by
  unfold tickOk
  rw [decide_eq_false h, Bool.and_false]
theorem tickOk_yes {l : List Int} {r : Int} (hm : mayB l = true) (h : 0 ≤ r ∧ r < l.length ∧ l.getD r.toNat 0 < 1099511627776) : tickOk l r = true := by
  unfold tickOk
  rw [decide_eq_true h, hm]; rfl
/-- A row of the call's own that was made empty. -/
theorem own_empty (w : World) : (w.alloc (.cells #[] 3)).ownsRow w.heap.size 3 1 (.slice (some ⟨w.heap.size, 0, none⟩) 0 0) 0 [] :=
  ⟨rfl, .inr ⟨w.heap.size, 0, #[], rfl, Nat.le_refl _, heap_alloc_new w _, Nat.le_refl _, Nat.zero_le _, rfl, rfl⟩⟩

theorem ints_one (l : List Int) : ∀ u ∈ ints l, u.oneCell' = true := by
  intro u hu
  simp only [ints, List.mem_map] at hu
  obtain ⟨n, _, rfl⟩ := hu
  rfl

/-- A row of the call's own, block g, whose first cells are l. -/
def OwnRow (w : World) (B g cap : Nat) (l : List Int) : Prop := ∃ cur : Array Value, B ≤ g ∧ Blk w g 3 cur ∧ cur.size = cap ∧ l.length ≤ cap ∧ cap ≤ maxLen ∧ cur.toList.take l.length = ints l
section
variable {w w' : World} {B g cap : Nat} {l : List Int}
theorem OwnRow.lt (h : OwnRow w B g cap l) : g < w.heap.size := by obtain ⟨_, _, hb, _⟩ := h; exact hb.lt
theorem OwnRow.ge (h : OwnRow w B g cap l) : B ≤ g := by obtain ⟨_, hb, _⟩ := h; exact hb
theorem OwnRow.room (h : OwnRow w B g cap l) : l.length ≤ cap := by obtain ⟨_, _, _, _, h, _⟩ := h; exact h
theorem OwnRow.cell (h : OwnRow w B g cap l) (k : Nat) (hk : k < l.length) : w.cell? ⟨g, k, none⟩ = some (.int .i64 (l.getD k 0)) := by
  obtain ⟨cur, _, hb, hs, hl, _, he⟩ := h
  have h1 : (ints l)[k]? = some (.int .i64 (l.getD k 0)) := ints_at l k hk
  rw [← he, List.getElem?_take, if_pos hk, Array.getElem?_toList] at h1
  rw [hb.cell k, h1]
theorem OwnRow.frozen (h : OwnRow w B g cap l) (k : Nat) : w.frozen? ⟨g, k, none⟩ = false := by obtain ⟨_, _, hb, _⟩ := h; exact hb.frozen k
theorem OwnRow.set_ (h : OwnRow w B g cap l) (k : Nat) (x : Int) : OwnRow (w.setCell ⟨g, k, none⟩ (.int .i64 x)) B g cap (l.set k x) := by
  obtain ⟨cur, h0, hb, hs, hl, hm, he⟩ := h
  refine ⟨cur.setIfInBounds k (.int .i64 x), h0, hb.set_ k _, by simpa using hs, by simpa using hl, hm, ?_⟩
  rw [Array.toList_setIfInBounds, List.length_set, List.take_set, he]
  simp [ints, List.map_set]
theorem OwnRow.of_block (h : OwnRow w B g cap l) (e : w'.heap[g]? = w.heap[g]?) : OwnRow w' B g cap l := by
  obtain ⟨cur, h0, hb, h2⟩ := h
  exact ⟨cur, h0, e.trans hb, h2⟩
theorem OwnRow.below {D : Nat} (h : OwnRow w B g cap l) (hb : Below D w w') (hg : g < D) : OwnRow w' B g cap l := h.of_block (hb.block g hg)
theorem OwnRow.drewN (h : OwnRow w B g cap l) (n : Nat) : OwnRow (w.drewN n) B g cap l := h
theorem OwnRow.owned (h : OwnRow w B g cap l) : Owned w B (some ⟨g, 0, none⟩) cap l := by
  obtain ⟨cur, h0, hb, hs, hl, hm, he⟩ := h
  exact ⟨by simp [ints], .inr ⟨g, cap, cur, rfl, h0, hb, hl, hm, by simpa using hs, by simpa using he⟩⟩
theorem OwnRow.reads (h : OwnRow w B g cap l) : Rd w w.heap.size (some ⟨g, 0, none⟩) l := h.owned.reads
theorem OwnRow.of_own {n : Nat} {xs : List Value} (h : w.ownsRow B 3 1 (.slice (some ⟨g, 0, none⟩) n cap) n xs) (hn : n = l.length) (hx : xs = ints l) : OwnRow w B g cap l := by
  subst hn hx
  obtain ⟨_, h | ⟨g', cap', cur, hv, h0, hb, hl, hm, hs, he⟩⟩ := h
  · exact absurd h.1 (by simp)
  · injection hv with h1 h2 h3
    injection h1 with h1
    injection h1 with h1
    subst h1 h3
    exact ⟨cur, h0, hb, by simpa using hs, hl, hm, by simpa using he⟩
end
/-- What is owned, and isn't empty, is a row. -/
theorem Owned.row {w : World} {B cap : Nat} {A : Option Addr} {l : List Int} (h : Owned w B A cap l) : (A = none ∧ cap = 0 ∧ l = []) ∨ ∃ g, A = some ⟨g, 0, none⟩ ∧ OwnRow w B g cap l := by
  obtain ⟨h0, ⟨hv, hn⟩ | ⟨g', cap', cur, hv, h1, hb, hl, hm, hs, he⟩⟩ := h
  · injection hv with h1 h2 h3
    exact .inl ⟨h1, h3, List.eq_nil_of_length_eq_zero hn⟩
  · injection hv with e1 e2 e3
    subst e1 e3
    exact .inr ⟨g', rfl, cur, h1, hb, by simpa using hs, hl, hm, by simpa using he⟩

set_option maxRecDepth 100000 in
set_option maxHeartbeats 1000000 in
theorem tick_b (A : Option Addr) (l : List Int) (cap : Nat) (r : Int) (w : World) (hr : Rd w w.heap.size A l) (hm : l.length ≤ maxLen) :
    Calls Try.prog 19 #[.slice A l.length cap, .int .i64 r] w fun e w' => ∃ A' cap', e = .returned (.tuple #[.slice A' (tickL l r).length cap', .int .i64 (tickE l r)]) ∧ Owned w' w.heap.size A' cap' (tickL l r) ∧ Below w.heap.size w w' := by
  by_cases hmay : mayB l = true
  · have hlen := mayB_len hmay
    have Hmay := hide hmay
    by_cases hr0 : 0 ≤ r ∧ r < l.length
    · obtain ⟨k, rfl⟩ := Int.eq_ofNat_of_zero_le hr0.1
      have hk : k < l.length := by omega
      obtain ⟨ad, rfl, hb, hc⟩ := rd_at hr hk
      obtain ⟨hx0, hx1⟩ := mayB_at hmay k hk
      generalize hx : l.getD k 0 = x at hc hx0 hx1
      have Hx := hide hx
      have Hr := hide hr
      by_cases hmost : x < 1099511627776
      · obtain ⟨hL, hE⟩ := tick_yes (tickOk_yes hmay ⟨hr0.1, hr0.2, by rw [Int.toNat_natCast, hx]; exact hmost⟩)
        rw [Int.toNat_natCast, hx] at hL
        rw [hL, hE]
        clear hL hE hx hr hmay hr0
        obtain ⟨i0, hi0, hz0, hz1, hz2⟩ := info_parts int_info
        obtain ⟨hlen1, hlen2⟩ := hlen
        have hlm : 0 + l.length ≤ maxLen := by omega
        go_enter Try.func19, Try.ntmps19
        go_wp2_with (first
          | (go_at_call 14; refine (may_b _ _ _ _ _ Hr.out hm).mono ?_; rw [Hmay.out]; rintro e w' ⟨rfl, rfl⟩)
          | (at_builtin
             refine wpList_append_any _ rfl (.tmp 27) (.tmp 28) _ rfl w.heap.size 3 i0 _ 1 8 Try.underlying22 hi0 hz0 hz1 hz2 rfl (by omega) (.slice (some ⟨w.heap.size, 0, none⟩) 0 0) 0 [] rfl (own_empty w) w.heap.size (some ad) l.length cap (ints l) rfl (Hr.out.alloc (Nat.le_refl _) _) (ints_one l) hlm (by omega) (by simp) ?_
             intro v1 w1 hown1 hg1 hat1
             have hbw1 : Below w.heap.size w w1 := ((Below.refl _ _).alloc (Nat.le_refl _) _).grown hg1 (by simp) (by simp [Value.ownBlock])
             obtain ⟨g, cap1, hv1, hge, hlt⟩ := hown1.form (by omega)
             have hsub : v1 = .slice (some ⟨g, 0, none⟩) l.length cap1 := by rw [hv1, Nat.zero_add]
             subst hsub
             clear hv1
             rw [Nat.zero_add, List.nil_append] at hown1
             have hrow := OwnRow.of_own (l := l) hown1 rfl rfl
             have hc1 : w1.cell? ⟨g, k, none⟩ = some (.int .i64 x) := by rw [← Hx.out]; exact hrow.cell k hk
             have hf1 := hrow.frozen k
             have Hrow := hide hrow
             clear hown1 hrow hg1 hat1))
        go_ret2
        refine ⟨_, _, by simp, (Hrow.out.set_ k (x + 1)).owned, hbw1.setCell (p := ⟨g, k, none⟩) hge _⟩
      · obtain ⟨hL, hE⟩ := tick_no (l := l) (r := k) (tickOk_no (by rw [Int.toNat_natCast, hx]; omega))
        rw [hL, hE]
        clear hL hE hx hr hmay hr0
        obtain ⟨hlen1, hlen2⟩ := hlen
        go_enter Try.func19, Try.ntmps19
        go_wp2_with (first
          | (go_at_call 14; refine (may_b _ _ _ _ _ Hr.out hm).mono ?_; rw [Hmay.out]; rintro e w' ⟨rfl, rfl⟩))
        go_ret2
        exact ⟨_, _, rfl, Owned.nil _ _, Below.refl _ _⟩
    · obtain ⟨hL, hE⟩ := tick_no (l := l) (r := r) (tickOk_no (by omega))
      rw [hL, hE]
      have Hr := hide hr
      clear hL hE hr hmay
      obtain ⟨hlen1, hlen2⟩ := hlen
      by_cases h0 : r < 0
      all_goals
        first
        | (have h1 : (l.length : Int) ≤ r := by omega
           have h2 : 0 ≤ r := by omega)
        | skip
        clear hr0
        go_enter Try.func19, Try.ntmps19
        go_wp2_with (first
          | (go_at_call 14; refine (may_b _ _ _ _ _ Hr.out hm).mono ?_; rw [Hmay.out]; rintro e w' ⟨rfl, rfl⟩))
        go_ret2
        exact ⟨_, _, rfl, Owned.nil _ _, Below.refl _ _⟩
  · obtain ⟨hL, hE⟩ := tick_no (l := l) (r := r) (tickOk_may (by simpa using hmay))
    rw [hL, hE]
    have Hmay := hide (show mayB l = false by simpa using hmay)
    have Hr := hide hr
    clear hL hE hr hmay
    go_enter Try.func19, Try.ntmps19
    go_wp2_with (first
      | (go_at_call 14; refine (may_b _ _ _ _ _ Hr.out hm).mono ?_; rw [Hmay.out]; rintro e w' ⟨rfl, rfl⟩))
    go_ret2
    exact ⟨_, _, rfl, Owned.nil _ _, Below.refl _ _⟩
end Go.Proofs.Ytjmidldmhmhbnaa
