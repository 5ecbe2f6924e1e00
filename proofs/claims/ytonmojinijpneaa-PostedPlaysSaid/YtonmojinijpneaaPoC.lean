/- Receives as they lie. -/
import Derived.Test.YtonmojinijpneaaRows
import Derived.Test.YtonmojinijpneaaPoB
import Derived.Test.YtonmojinijpneaaQuM
namespace Go.Proofs.Ytonmojinijpneaa
open Go Go.Joins Go.ChangeShapes Go.WideShapes Go.RowKit Go.Deep Go.Lib
set_option linter.unusedVariables false
set_option linter.unusedSimpArgs false
namespace Po
structure Rc where
  key : ByteArray
  rk : Int
  ca : Int
  pe : Int
  tg : Int
  rq : Int
  dn : Bool
  fr : Int
  sq : Int
def rcC (r : Rc) : List Value := [.string r.key, .int .i64 r.rk, .int .i64 r.ca, .int .i64 r.pe, .int .i64 r.tg, .int .i64 r.rq, .bool r.dn, .int .i64 r.fr, .int .i64 r.sq]
def rcV (r : Rc) : Value := .agg #[.string r.key, .int .i64 r.rk, .int .i64 r.ca, .int .i64 r.pe, .int .i64 r.tg, .int .i64 r.rq, .bool r.dn, .int .i64 r.fr, .int .i64 r.sq]
def rcCs : List Rc → List Value
  | [] => []
  | m :: l => rcC m ++ rcCs l
theorem rcC_len (m : Rc) : (rcC m).length = 9 := rfl
theorem rcCs_len : ∀ l : List Rc, (rcCs l).length = l.length * 9
  | [] => rfl
  | m :: l => by rw [rcCs, List.length_append, rcCs_len l, rcC_len, List.length_cons]; omega
theorem rcCs_app : ∀ (a b : List Rc), rcCs (a ++ b) = rcCs a ++ rcCs b
  | [], b => rfl
  | m :: a, b => by rw [List.cons_append, rcCs, rcCs, rcCs_app a b, List.append_assoc]
theorem rcCs_at : ∀ (l : List Rc) (i : Nat) (m : Rc), l[i]? = some m → ∀ j, j < 9 → (rcCs l)[i * 9 + j]? = (rcC m)[j]?
  | x :: l, 0, m, h, j, hj => by
    have e : x = m := by simpa using h
    subst e
    rw [rcCs, List.getElem?_append_left (by rw [rcC_len]; omega)]
    simp
  | x :: l, i + 1, m, h, j, hj => by
    have e : (i + 1) * 9 + j = (rcC x).length + (i * 9 + j) := by rw [rcC_len]; omega
    rw [rcCs, e, List.getElem?_append_right (by omega), Nat.add_sub_cancel_left]
    exact rcCs_at l i m (by simpa using h) j hj
/-- A row of receives that is read. -/
structure RRow (w : World) (A : Option Addr) (r : List Rc) : Prop where
  it : ∀ i m, r[i]? = some m → ∃ g, A = some ⟨g, 0, none⟩ ∧ g < w.heap.size ∧ ∀ k v, (rcC m)[k]? = some v → w.cell? ⟨g, i * 9 + k, none⟩ = some v
theorem RRow.below {w w' : World} {A : Option Addr} {r : List Rc} (h : RRow w A r) (hb : Below w.heap.size w w') : RRow w' A r := ⟨fun i m hm => by
  obtain ⟨g, hA, hg, hc⟩ := h.it i m hm
  exact ⟨g, hA, Nat.lt_of_lt_of_le hg hb.size, fun k v hv => (hb.cell (p := ⟨g, _, none⟩) hg).trans (hc k v hv)⟩⟩
theorem RRow.of_own {w : World} {B n c : Nat} {A : Option Addr} {r : List Rc} (h : w.ownsRow B 35 9 (.slice A n c) n (rcCs r)) (hn : r.length = n) : RRow w A r := ⟨fun i m hm => by
  have hi : i < r.length := (List.getElem?_eq_some_iff.1 hm).1
  obtain ⟨g, hA, _, _, ⟨cs, hb⟩, _, _, hc⟩ := own_cell h (by omega)
  exact ⟨g, hA, hb.lt, fun k v hv => hc _ v ((rcCs_at r i m hm k (by have := (List.getElem?_eq_some_iff.1 hv).1; rwa [rcC_len] at this)).trans hv)⟩⟩
/-- What may be posted. -/
def mayR (r : Rc) : Prop := 0 ≤ r.rk ∧ r.rk < 64 ∧ 0 ≤ r.ca ∧ -1 ≤ r.pe ∧ r.pe < 64 ∧ -1 ≤ r.tg ∧ r.tg ≤ 32767 ∧ -1 ≤ r.rq
instance (r : Rc) : Decidable (mayR r) := by unfold mayR; exact inferInstance
def slR (L : Nat → Option Addr × Nat) (ls : Nat → List Rc) (k : Nat) : Value := .slice (L k).1 (ls k).length (L k).2
def pCs (L : Nat → Option Addr × Nat) (ls : Nat → List Rc) : Array Value := #[.bool true] ++ (Array.range 64).map (slR L ls)
theorem pCs_zero (L : Nat → Option Addr × Nat) (ls : Nat → List Rc) : (pCs L ls)[0]? = some (.bool true) := by simp [pCs]
theorem pCs_at (L : Nat → Option Addr × Nat) (ls : Nat → List Rc) (k : Nat) (hk : k < 64) : (pCs L ls)[1 + k]? = some (slR L ls k) := by
  rw [pCs, Array.getElem?_append_right (by simp)]
  simp [hk]
/-- The receives p, rank by rank ls, lie as L says. -/
structure PSt (w : World) (p : Nat) (L : Nat → Option Addr × Nat) (ls : Nat → List Rc) : Prop where
  blk : Blk w p 60 (pCs L ls)
  row : ∀ k, k < 64 → w.ownsRow 0 35 9 (slR L ls k) (ls k).length (rcCs (ls k))
  ap : ∀ i j, i < 64 → j < 64 → i ≠ j → ∀ g, (slR L ls i).ownBlock = some g → (slR L ls j).ownBlock ≠ some g
  pp : ∀ i, i < 64 → (slR L ls i).ownBlock ≠ some p
  up : ∀ k, k < 64 → (ls k).Pairwise fun a b => a.ca < b.ca
  ok : ∀ k, k < 64 → ∀ r ∈ ls k, mayR r ∧ r.rk = k
theorem PSt.below {w w' : World} {p : Nat} {L : Nat → Option Addr × Nat} {ls : Nat → List Rc} (h : PSt w p L ls) (hb : Below w.heap.size w w') : PSt w' p L ls :=
  ⟨h.blk.below hb h.blk.lt, fun k hk => own_belowR (h.row k hk) hb, h.ap, h.pp, h.up, h.ok⟩
theorem PSt.zero {w : World} {p : Nat} {L : Nat → Option Addr × Nat} {ls : Nat → List Rc} (h : PSt w p L ls) : w.cell? ⟨p, 0, none⟩ = some (.bool true) := (h.blk.cell 0).trans (pCs_zero L ls)
theorem PSt.at_ {w : World} {p : Nat} {L : Nat → Option Addr × Nat} {ls : Nat → List Rc} (h : PSt w p L ls) (k : Nat) (hk : k < 64) : w.cell? ⟨p, 1 + k, none⟩ = some (.slice (L k).1 (ls k).length (L k).2) := (h.blk.cell (1 + k)).trans (pCs_at L ls k hk)
theorem PSt.rrow {w : World} {p : Nat} {L : Nat → Option Addr × Nat} {ls : Nat → List Rc} (h : PSt w p L ls) (k : Nat) (hk : k < 64) : RRow w (L k).1 (ls k) := RRow.of_own (h.row k hk) rfl
set_option maxRecDepth 100000 in
theorem made_yes (w : World) (p : Nat) (L : Nat → Option Addr × Nat) (ls : Nat → List Rc) (h : PSt w p L ls) : Calls Try.prog 60 #[.pointer (some ⟨p, 0, none⟩)] w fun e w' => e = .returned (.bool true) ∧ w = w' := by
  have h0 := h.zero
  have H := hide h
  clear h
  go_enter Try.func60, Try.ntmps60
  go_wp2
  go_ret
  exact ⟨rfl, rfl⟩
set_option maxRecDepth 100000 in
theorem of_in (w : World) (p : Nat) (L : Nat → Option Addr × Nat) (ls : Nat → List Rc) (h : PSt w p L ls) (k : Nat) (hk : k < 64) : Calls Try.prog 48 #[.pointer (some ⟨p, 0, none⟩), .int .i64 k] w fun e w' => e = .returned (.slice (L k).1 (ls k).length (L k).2) ∧ w = w' := by
  have hc := h.at_ k hk
  have hk0 : ¬ (k : Int) < 0 := by omega
  have hk1 : ¬ (64 : Int) ≤ (k : Int) := by omega
  have hk2 : (k : Int) < 64 := by omega
  have H := hide h
  clear h
  go_enter Try.func48, Try.ntmps48
  go_wp2_with (go_at_call 60; refine (made_yes _ _ _ _ H.out).mono ?_; rintro e w' ⟨rfl, rfl⟩)
  go_ret
  exact ⟨rfl, rfl⟩
set_option maxRecDepth 100000 in
theorem of_out (w : World) (p : Nat) (L : Nat → Option Addr × Nat) (ls : Nat → List Rc) (h : PSt w p L ls) (rk : Int) (hk : rk < 0 ∨ 64 ≤ rk) : Calls Try.prog 48 #[.pointer (some ⟨p, 0, none⟩), .int .i64 rk] w fun e w' => e = .returned (.slice none 0 0) ∧ w = w' := by
  have H := hide h
  clear h
  have hd : (decide (rk < 0) || decide (64 ≤ rk)) = true := by simpa using hk
  rcases hk with hk | hk
  · go_enter Try.func48, Try.ntmps48
    go_wp2_with (go_at_call 60; refine (made_yes _ _ _ _ H.out).mono ?_; rintro e w' ⟨rfl, rfl⟩)
    go_ret
    exact ⟨rfl, rfl⟩
  · have hk0 : ¬ rk < 0 := by omega
    go_enter Try.func48, Try.ntmps48
    go_wp2_with (go_at_call 60; refine (made_yes _ _ _ _ H.out).mono ?_; rintro e w' ⟨rfl, rfl⟩)
    go_ret
    exact ⟨rfl, rfl⟩
end Po
end Go.Proofs.Ytonmojinijpneaa
