/- group.behind, Rank, Number. -/
import Derived.Test.YtgiibknfkphkgaaDoorRows
import Derived.Test.YtgiibknfkphkgaaDoorGrpE
import Derived.Test.YtgiibknfkphkgaaDoorNumI
import Derived.Test.YtgiibknfkphkgaaDoorRel
import Derived.Lib.SmallJoins
namespace Go.Proofs.YtgiibknfkphkgaaDoor
open Go Go.RowKit Go.Lib
set_option linter.unusedVariables false
set_option linter.unusedSimpArgs false
namespace Grp
def behindS (key : ByteArray) (k : Int) : ByteArray := key ++ bytes [46] ++ bytes (itoa k)
set_option maxRecDepth 100000 in
set_option maxHeartbeats 4000000 in
theorem behind_c (key : ByteArray) (A : Option Addr) (n cap : Nat) (k : Int) (w : World) (h0 : -9223372036854775808 ≤ k) (h1 : k ≤ 9223372036854775807) (hp : Pow w) (hks : key.size ≤ 1000000) :
    Calls Tryd.prog 26 #[.agg #[.string key, .slice A n cap], .int .i64 k] w fun e w' => e = .returned (.string (behindS key k)) ∧ Below w.heap.size w w' := by
  have b1 := Blk.new w 24 #[.string key, .slice A n cap]
  have hb1 := (Below.refl w.heap.size w).alloc (Nat.le_refl _) (.cells #[.string key, .slice A n cap] 24)
  have c0 : (w.alloc (.cells #[.string key, .slice A n cap] 24)).cell? ⟨w.heap.size, 0, none⟩ = some (.string key) := b1.cell 0
  obtain ⟨W1, hW1⟩ : ∃ x, w.alloc (.cells #[.string key, .slice A n cap] 24) = x := ⟨_, rfl⟩
  rw [hW1] at hb1 c0
  have sz1 : ¬ 9223372036854775807 < key.size + 1 := by omega
  have sz2 : ¬ 9223372036854775807 < key.size + (bytes [46]).size + (bytes (itoa k)).size := by
    rw [bytes_size, bytes_size]
    have := itoa_length_le k h0 h1
    simp only [List.length_cons, List.length_nil]
    omega
  have IT := hide (fun (w' : World) (hb : Below W1.heap.size W1 w') => itoa_a k w' h0 h1 (hp.below (hb1.trans (hb.mono hb1.size)) (Nat.le_refl _)))
  have HB1 := hide hb1
  clear b1 hb1 hp
  go_enter Tryd.func26, Tryd.ntmps26
  go_wp2_with fail
  let R : Nat → Value → World → Prop := fun sl u _ => match sl with
    | 5 => u = .pointer (some ⟨w.heap.size, 0, none⟩)
    | 6 => u = .string key
    | 7 => u = .string (key ++ bytes [46])
    | 8 => u = .int .i64 k
    | 9 => u = .string (bytes (itoa k))
    | 10 | 4 => u = .string (key ++ bytes [46] ++ bytes (itoa k))
    | _ => True
  refine wp_region_rel R (by kernel_rfl) (by kernel_rfl) (by kernel_rfl) (fun t v wx wy h _ => h) ?step1 ?fin1
  case fin1 =>
    intro ff w9 hb hr
    have e4 : ff 4 = .string (key ++ bytes [46] ++ bytes (itoa k)) := hr 4 (by decide)
    have HB9 := hide (HB1.out.trans (hb.mono HB1.out.size))
    clear hr hb
    simp only [putAll, slotsOf, List.take, List.drop, List.filterMap_cons, List.filterMap_nil, List.foldl_cons, List.foldl_nil, Act.put, e4]
    simp only [List.setIfInBounds_toArray, List.set_cons_succ, List.set_cons_zero]
    go_wp2_with fail
    go_ret
    exact ⟨rfl, HB9.out⟩
  case step1 =>
    intro op hop
    simp only [List.mem_cons, List.not_mem_nil, or_false] at hop
    rcases hop with rfl | rfl | rfl | rfl | rfl | rfl | rfl
    · intro a w1 hb hs hr
      have e2 : a.tmps.getD 2 undef = .pointer (some ⟨w.heap.size, 0, none⟩) := hs 2 (by decide)
      rw [Array.getD_eq_getD_getElem?] at e2
      unfold Oper.wp
      simp only [execOp, Act.eval, Array.getD_eq_getD_getElem?, e2]
      go_simp
      exact ⟨_, rfl, rfl, Below.refl _ _⟩
    · intro a w1 hb hs hr
      have e5 : a.tmps.getD 5 undef = .pointer (some ⟨w.heap.size, 0, none⟩) := hr 5 (by decide) (by apply Array.mem_toList_iff.1; repeat (first | exact List.Mem.head _ | apply List.Mem.tail))
      have cc0 := (hb.cell (p := ⟨_, _, none⟩) (block_lt_of_cell c0)).trans c0
      rw [Array.getD_eq_getD_getElem?] at e5
      unfold Oper.wp
      simp only [execOp, Act.eval, Array.getD_eq_getD_getElem?, e5]
      go_simp
      exact ⟨_, rfl, rfl, Below.refl _ _⟩
    · intro a w1 hb hs hr
      have e6 : a.tmps.getD 6 undef = .string key := hr 6 (by decide) (by apply Array.mem_toList_iff.1; repeat (first | exact List.Mem.head _ | apply List.Mem.tail))
      rw [Array.getD_eq_getD_getElem?] at e6
      unfold Oper.wp
      simp only [execOp, Act.eval, Array.getD_eq_getD_getElem?, e6]
      go_simp
      exact ⟨_, rfl, rfl, Below.refl _ _⟩
    · intro a w1 hb hs hr
      have e1 : a.tmps.getD 1 undef = .int .i64 k := hs 1 (by decide)
      rw [Array.getD_eq_getD_getElem?] at e1
      unfold Oper.wp
      simp only [execOp, Act.eval, Array.getD_eq_getD_getElem?, e1]
      go_simp
      exact ⟨_, rfl, rfl, Below.refl _ _⟩
    · intro a w1 hb hs hr
      have e8 : a.tmps.getD 8 undef = .int .i64 k := hr 8 (by decide) (by apply Array.mem_toList_iff.1; repeat (first | exact List.Mem.head _ | apply List.Mem.tail))
      rw [Array.getD_eq_getD_getElem?] at e8
      unfold Oper.wp
      simp only [execOp, Act.eval, Array.getD_eq_getD_getElem?, e8]
      go_simp
      refine (IT.out w1 hb).mono ?_
      rintro e w9 ⟨rfl, hb9⟩
      exact ⟨_, rfl, rfl, hb9⟩
    · intro a w1 hb hs hr
      have e7 : a.tmps.getD 7 undef = .string (key ++ bytes [46]) := hr 7 (by decide) (by apply Array.mem_toList_iff.1; repeat (first | exact List.Mem.head _ | apply List.Mem.tail))
      have e9 : a.tmps.getD 9 undef = .string (bytes (itoa k)) := hr 9 (by decide) (by apply Array.mem_toList_iff.1; repeat (first | exact List.Mem.head _ | apply List.Mem.tail))
      rw [Array.getD_eq_getD_getElem?] at e7
      rw [Array.getD_eq_getD_getElem?] at e9
      unfold Oper.wp
      simp only [execOp, Act.eval, Array.getD_eq_getD_getElem?, e7, e9]
      go_simp
      exact ⟨_, rfl, rfl, Below.refl _ _⟩
    · intro a w1 hb hs hr
      have e10 : a.tmps.getD 10 undef = .string (key ++ bytes [46] ++ bytes (itoa k)) := hr 10 (by decide) (by apply Array.mem_toList_iff.1; repeat (first | exact List.Mem.head _ | apply List.Mem.tail))
      rw [Array.getD_eq_getD_getElem?] at e10
      unfold Oper.wp
      simp only [execOp, Act.eval, Array.getD_eq_getD_getElem?, e10]
      go_simp
      exact ⟨_, rfl, rfl, Below.refl _ _⟩
set_option maxRecDepth 100000 in
set_option maxHeartbeats 4000000 in
theorem Rank_c (key : ByteArray) (A : Option Addr) (cap : Nat) (l : List Int) (x : Int) (w : World) (h : NRow w A l) (hl : l.length ≤ 1000) :
    Calls Tryd.prog 18 #[.agg #[.string key, .slice A l.length cap], .int .i64 x] w fun e w' => e = .returned (.tuple (if 0 ≤ x ∧ x < l.length then #[.int .i64 (l.getD x.toNat 0), .bool true] else #[.int .i64 0, .bool false])) ∧ Below w.heap.size w w' := by
  have b1 := Blk.new w 24 #[.string key, .slice A l.length cap]
  have hb1 := (Below.refl w.heap.size w).alloc (Nat.le_refl _) (.cells #[.string key, .slice A l.length cap] 24)
  have c1 : (w.alloc (.cells #[.string key, .slice A l.length cap] 24)).cell? ⟨w.heap.size, 1, none⟩ = some (.slice A l.length cap) := b1.cell 1
  have h2 := h.below hb1
  obtain ⟨W1, hW1⟩ : ∃ y, w.alloc (.cells #[.string key, .slice A l.length cap] 24) = y := ⟨_, rfl⟩
  rw [hW1] at hb1 c1 h2
  have HB1 := hide hb1
  by_cases hx0 : x < 0
  · rw [if_neg (by omega)]
    clear b1 hb1 h h2
    go_enter Tryd.func18, Tryd.ntmps18
    go_wp2_with fail
    go_ret2
    exact ⟨rfl, HB1.out⟩
  by_cases hx1 : (l.length : Int) ≤ x
  · rw [if_neg (by omega)]
    clear b1 hb1 h h2
    go_enter Tryd.func18, Tryd.ntmps18
    go_wp2_with fail
    go_ret2
    exact ⟨rfl, HB1.out⟩
  rw [if_pos (by omega)]
  obtain ⟨n, rfl⟩ : ∃ n : Nat, x = n := ⟨x.toNat, by omega⟩
  have hnl : n < l.length := by omega
  have hnI : (n : Int) < (l.length : Int) := by omega
  obtain ⟨ad, rfl, _, hc⟩ := h2 (by omega)
  have cn := hc n hnl
  rw [Int.toNat_natCast]
  clear b1 hb1 h h2 hc
  generalize l.getD n 0 = z at *
  go_enter Tryd.func18, Tryd.ntmps18
  go_wp2_with fail
  go_ret2
  exact ⟨rfl, HB1.out⟩
/-- Where a number stands first, or -1. -/
def At1 (l : List Int) (x z : Int) : Prop := (z = -1 ∧ ∀ k, k < l.length → l.getD k 0 ≠ x) ∨ ∃ k : Nat, k < l.length ∧ z = k ∧ l.getD k 0 = x ∧ ∀ j, j < k → l.getD j 0 ≠ x
def idxPost (l : List Int) (x : Int) (w : World) (e : Ending) (w' : World) : Prop := ∃ z : Int, e = .returned (.int .i64 z) ∧ At1 l x z ∧ w' = w
set_option maxRecDepth 100000 in
set_option maxHeartbeats 4000000 in
theorem Index_c (A : Option Addr) (cap : Nat) (l : List Int) (x : Int) (w : World) (h : NRow w A l) (hl : l.length ≤ 1000) :
    Calls Tryd.prog 35 #[.slice A l.length cap, .int .i64 x] w (idxPost l x w) := by
  have HN := hide h
  clear h
  go_enter Tryd.func35, Tryd.ntmps35
  go_wp2_with fail
  go_loopw [8] (fun vk wr => ∃ (k : Nat), k ≤ l.length ∧ vk = .int .i64 k ∧ Hid (∀ j, j < k → l.getD j 0 ≠ x) ∧ wr = w) (fun vk _ => l.length - (RowKit.intOf vk).toNat)
  case atStart => exact ⟨0, by omega, rfl, hide (fun j hj => absurd hj (Nat.not_lt_zero j)), rfl⟩
  case round =>
    obtain ⟨k, hk, rfl, HS, rfl⟩ := hrel
    by_cases hlt : k < l.length
    rotate_left
    · have hltI : ¬ (k : Int) < (l.length : Int) := by omega
      have FIN := hide (show At1 l x (-1) from .inl ⟨rfl, fun j hj => HS.out j (by omega)⟩)
      go_wp2_with fail
      go_ret
      exact ⟨-1, rfl, FIN.out, rfl⟩
    have hltI : (k : Int) < (l.length : Int) := by omega
    obtain ⟨ad, rfl, _, hc⟩ := HN.out (by omega)
    have ck := hc k hlt
    by_cases hx : l.getD k 0 = x
    · have FIN := hide (show At1 l x k from .inr ⟨k, hlt, rfl, hx, HS.out⟩)
      rw [hx] at ck
      have hxb : (x == x) = true := by simp
      clear hc hx
      go_wp2_with fail
      go_ret
      exact ⟨k, rfl, FIN.out, rfl⟩
    · have HS2 : Hid (∀ j, j < k + 1 → l.getD j 0 ≠ x) := hide (fun j hj => by
        by_cases e : j = k
        · rw [e]; exact hx
        · exact HS.out j (by omega))
      have hxb : (x == l.getD k 0) = false := by
        rw [beq_eq_false_iff_ne]
        exact fun h => hx h.symm
      have hxb2 : (l.getD k 0 == x) = false := by
        rw [beq_eq_false_iff_ne]
        exact hx
      clear hc hx
      generalize l.getD k 0 = z at *
      go_wp2_with fail
      go_roundw
      case rel => exact ⟨k + 1, by omega, by go_num, HS2, by first | trivial | rfl⟩
      case measure => simp [RowKit.intOf] <;> omega
def numPost (l : List Int) (x : Int) (w : World) (e : Ending) (w' : World) : Prop := ∃ z : Int, e = .returned (.tuple #[.int .i64 (max z 0), .bool (decide (0 ≤ z))]) ∧ At1 l x z ∧ Below w.heap.size w w'
set_option maxRecDepth 100000 in
set_option maxHeartbeats 4000000 in
theorem Number_c (key : ByteArray) (A : Option Addr) (cap : Nat) (l : List Int) (x : Int) (w : World) (h : NRow w A l) (hl : l.length ≤ 1000) :
    Calls Tryd.prog 19 #[.agg #[.string key, .slice A l.length cap], .int .i64 x] w (numPost l x w) := by
  have b1 := Blk.new w 24 #[.string key, .slice A l.length cap]
  have hb1 := (Below.refl w.heap.size w).alloc (Nat.le_refl _) (.cells #[.string key, .slice A l.length cap] 24)
  have c1 : (w.alloc (.cells #[.string key, .slice A l.length cap] 24)).cell? ⟨w.heap.size, 1, none⟩ = some (.slice A l.length cap) := b1.cell 1
  have h2 := h.below ((Below.refl w.heap.size w).alloc (Nat.le_refl _) (.cells #[.string key, .slice A l.length cap] 24))
  obtain ⟨W1, hW1⟩ : ∃ y, w.alloc (.cells #[.string key, .slice A l.length cap] 24) = y := ⟨_, rfl⟩
  rw [hW1] at hb1 c1 h2
  have HB1 := hide hb1
  have IX := hide (Index_c A cap l x W1 h2 hl)
  clear b1 hb1 h h2
  go_enter Tryd.func19, Tryd.ntmps19
  go_wp2_with fail
  refine IX.out.mono ?_
  rintro e w' ⟨z, rfl, hz, rfl⟩
  have HZ := hide hz
  clear hz
  go_wp2_with fail
  go_ret2
  refine ⟨z, ?_, HZ.out, HB1.out⟩
  first | rfl | trace_state
end Grp
end Go.Proofs.YtgiibknfkphkgaaDoor
