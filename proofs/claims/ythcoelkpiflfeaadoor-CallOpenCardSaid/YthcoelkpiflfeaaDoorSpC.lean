/- group.behind, Rank, Number. -/
import Derived.Test.YthcoelkpiflfeaaDoorRows
import Derived.Test.YthcoelkpiflfeaaDoorGrpE
import Derived.Test.YthcoelkpiflfeaaDoorNumI
import Derived.Test.YthcoelkpiflfeaaDoorGround
import Derived.Lib.SmallJoins
namespace Go.Proofs.YthcoelkpiflfeaaDoor
open Go Go.RowKit Go.Lib
set_option linter.unusedVariables false
set_option linter.unusedSimpArgs false
namespace Grp
def behindS (key : ByteArray) (k : Int) : ByteArray := key ++ bytes [46] ++ bytes (itoa k)
set_option maxRecDepth 100000 in
set_option maxHeartbeats 4000000 in
theorem Rank_c (key : ByteArray) (A : Option Addr) (cap : Nat) (l : List Int) (x : Int) (w : World) (h : NRow w A l) (hl : l.length ≤ 1000) :
    Calls Tryd.prog 60 #[.agg #[.string key, .slice A l.length cap], .int .i64 x] w fun e w' => e = .returned (.tuple (if 0 ≤ x ∧ x < l.length then #[.int .i64 (l.getD x.toNat 0), .bool true] else #[.int .i64 0, .bool false])) ∧ Below w.heap.size w w' := by
  have b1 := Blk.new w 37 #[.string key, .slice A l.length cap]
  have hb1 := (Below.refl w.heap.size w).alloc (Nat.le_refl _) (.cells #[.string key, .slice A l.length cap] 37)
  have c1 : (w.alloc (.cells #[.string key, .slice A l.length cap] 37)).cell? ⟨w.heap.size, 1, none⟩ = some (.slice A l.length cap) := b1.cell 1
  have h2 := h.below hb1
  obtain ⟨W1, hW1⟩ : ∃ y, w.alloc (.cells #[.string key, .slice A l.length cap] 37) = y := ⟨_, rfl⟩
  rw [hW1] at hb1 c1 h2
  have HB1 := hide hb1
  by_cases hx0 : x < 0
  · rw [if_neg (by omega)]
    clear b1 hb1 h h2
    go_enter Tryd.func60, Tryd.ntmps60
    go_wp2_with fail
    go_ret2
    exact ⟨rfl, HB1.out⟩
  by_cases hx1 : (l.length : Int) ≤ x
  · rw [if_neg (by omega)]
    clear b1 hb1 h h2
    go_enter Tryd.func60, Tryd.ntmps60
    go_wp2_with fail
    go_ret2
    exact ⟨rfl, HB1.out⟩
  rw [if_pos (by omega)]
  obtain ⟨n, rfl⟩ : ∃ n : Nat, x = n := ⟨x.toNat, by omega⟩
  have hnl : n < l.length := by omega
  have hnI : (n : Int) < (l.length : Int) := by omega
  obtain ⟨ad, rfl, _, hc⟩ := h2 (by omega)
  have cn := hc n hnl
  rw [Int.toNat_natCast]
  clear b1 hb1 h h2 hc
  generalize l.getD n 0 = z at *
  go_enter Tryd.func60, Tryd.ntmps60
  go_wp2_with fail
  go_ret2
  exact ⟨rfl, HB1.out⟩
/-- Where a number stands first, or -1. -/
def At1 (l : List Int) (x z : Int) : Prop := (z = -1 ∧ ∀ k, k < l.length → l.getD k 0 ≠ x) ∨ ∃ k : Nat, k < l.length ∧ z = k ∧ l.getD k 0 = x ∧ ∀ j, j < k → l.getD j 0 ≠ x
def idxPost (l : List Int) (x : Int) (w : World) (e : Ending) (w' : World) : Prop := ∃ z : Int, e = .returned (.int .i64 z) ∧ At1 l x z ∧ w' = w
set_option maxRecDepth 100000 in
set_option maxHeartbeats 4000000 in
theorem Index_c (A : Option Addr) (cap : Nat) (l : List Int) (x : Int) (w : World) (h : NRow w A l) (hl : l.length ≤ 1000) :
    Calls Tryd.prog 87 #[.slice A l.length cap, .int .i64 x] w (idxPost l x w) := by
  have HN := hide h
  clear h
  go_enter Tryd.func87, Tryd.ntmps87
  go_wp2_with fail
  go_loopw [8] (fun vk wr => ∃ (k : Nat), k ≤ l.length ∧ vk = .int .i64 k ∧ Hid (∀ j, j < k → l.getD j 0 ≠ x) ∧ wr = w) (fun vk _ => l.length - (RowKit.intOf vk).toNat)
  case atStart => exact ⟨0, by omega, rfl, hide (fun j hj => absurd hj (Nat.not_lt_zero j)), rfl⟩
  case round =>
    obtain ⟨k, hk, rfl, HS, rfl⟩ := hrel
    by_cases hlt : k < l.length
    rotate_left
    · have hltI : ¬ (k : Int) < (l.length : Int) := by omega
      have FIN := hide (show At1 l x (-1) from .inl ⟨rfl, fun j hj => HS.out j (by omega)⟩)
      go_wp2_with fail
      go_ret
      exact ⟨-1, rfl, FIN.out, rfl⟩
    have hltI : (k : Int) < (l.length : Int) := by omega
    obtain ⟨ad, rfl, _, hc⟩ := HN.out (by omega)
    have ck := hc k hlt
    by_cases hx : l.getD k 0 = x
    · have FIN := hide (show At1 l x k from .inr ⟨k, hlt, rfl, hx, HS.out⟩)
      rw [hx] at ck
      have hxb : (x == x) = true := by simp
      clear hc hx
      go_wp2_with fail
      go_ret
      exact ⟨k, rfl, FIN.out, rfl⟩
    · have HS2 : Hid (∀ j, j < k + 1 → l.getD j 0 ≠ x) := hide (fun j hj => by
        by_cases e : j = k
        · rw [e]; exact hx
        · exact HS.out j (by omega))
      have hxb : (x == l.getD k 0) = false := by
        rw [beq_eq_false_iff_ne]
        exact fun h => hx h.symm
      have hxb2 : (l.getD k 0 == x) = false := by
        rw [beq_eq_false_iff_ne]
        exact hx
      clear hc hx
      generalize l.getD k 0 = z at *
      go_wp2_with fail
      go_roundw
      case rel => exact ⟨k + 1, by omega, by go_num, HS2, by first | trivial | rfl⟩
      case measure => simp [RowKit.intOf] <;> omega
def numPost (l : List Int) (x : Int) (w : World) (e : Ending) (w' : World) : Prop := ∃ z : Int, e = .returned (.tuple #[.int .i64 (max z 0), .bool (decide (0 ≤ z))]) ∧ At1 l x z ∧ Below w.heap.size w w'
end Grp
end Go.Proofs.YthcoelkpiflfeaaDoor
