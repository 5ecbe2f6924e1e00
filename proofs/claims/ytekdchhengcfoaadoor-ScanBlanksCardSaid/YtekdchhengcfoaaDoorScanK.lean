/- The chapter's examples. -/
import Derived.Test.YtekdchhengcfoaaDoorRows
import Derived.Test.YtekdchhengcfoaaDoorScanJ
import Derived.Lib.SlBytesConst
namespace Go.Proofs.YtekdchhengcfoaaDoor
open Go.RowKit
set_option linter.unusedVariables false
set_option linter.unusedSimpArgs false
theorem conv_at (w : World) (s : ByteArray) (a : Addr) (cap : Nat) (hc : ∀ j (hj : j < s.data.toList.length), w.cell? (a.add j) = some (.int .u8 (s.data.toList[j].toNat : Int))) :
    (convert 22 9 (.slice (some a) s.size cap)).run Tryd.prog w = .ok (.string s) w := by
  have := run_convert_bytes_back (P := Tryd.prog) w 22 9 5 a cap s.data.toList Tryd.underlying22 Tryd.underlying5 Tryd.underlying9 hc
  simpa using this
theorem add_plain (g o j : Nat) : (⟨g, o, none⟩ : Addr).add j = ⟨g, o + j, none⟩ := by unfold Addr.add; split <;> simp_all
theorem conv_new (w : World) (s : ByteArray) (C : Nat) (fz : Nat × Nat) : (convert 22 9 (.slice (some ⟨w.heap.size, 0, none⟩) s.size C)).run Tryd.prog (w.alloc (.cells (bytesRow s C) 5 fz)) = .ok (.string s) (w.alloc (.cells (bytesRow s C) 5 fz)) := by
  refine conv_at _ s _ C fun j hj => ?_
  rw [add_plain, Nat.zero_add, World.cell?_alloc_mark, bytesRow_at s C j (by simpa using hj)]
  rfl
theorem scan_err (p : Option Addr) (cap : Nat) (s : ByteArray) (w : World) (hs : s.size ≤ 20000) (hg : Sg w) (hcv : (convert 22 9 (.slice p s.size cap)).run Tryd.prog w = .ok (.string s) w) {l : List Tok} {a b : Nat} (h : Sc s 0 1 1 l (some (a, b))) :
    Calls Tryd.prog 10 #[.slice p s.size cap] w fun e w' => e = .returned (.tuple #[.slice none 0 0, .int .i64 a, .int .i64 b, .int .i64 10]) ∧ Below w.heap.size w w' := by
  refine (scan_a p cap s w (by omega) hg hcv).mono ?_
  rintro e w' ⟨hr, hb⟩
  unfold ScanR at hr
  rw [if_neg (by omega)] at hr
  obtain ⟨l', er, h1, _, h2⟩ := hr
  obtain ⟨_, rfl⟩ := h.det h1
  exact ⟨h2, hb⟩
theorem scan_ok (p : Option Addr) (cap : Nat) (s : ByteArray) (w : World) (hs : s.size ≤ 20000) (hg : Sg w) (hcv : (convert 22 9 (.slice p s.size cap)).run Tryd.prog w = .ok (.string s) w) {l : List Tok} (h : Sc s 0 1 1 l none) :
    Calls Tryd.prog 10 #[.slice p s.size cap] w fun e w' => (∃ v, e = .returned (.tuple #[v, .int .i64 0, .int .i64 0, .int .i64 0]) ∧ w'.ownsRow w.heap.size 31 5 v l.length (toks l)) ∧ Below w.heap.size w w' := by
  refine (scan_a p cap s w (by omega) hg hcv).mono ?_
  rintro e w' ⟨hr, hb⟩
  unfold ScanR at hr
  rw [if_neg (by omega)] at hr
  obtain ⟨l', er, h1, _, h2⟩ := hr
  obtain ⟨rfl, rfl⟩ := h.det h1
  exact ⟨h2, hb⟩
set_option maxRecDepth 100000 in
set_option maxHeartbeats 2000000 in
theorem told_c (s : ByteArray) (a b : Nat) (w : World) (hs : s.size ≤ 20000) (hg : Sg w) {l : List Tok} (h : Sc s 0 1 1 l (some (a, b))) :
    Calls Tryd.prog 33 #[.string s, .int .i64 a, .int .i64 b] w fun e w' => e = .returned (.bool true) ∧ Below w.heap.size w w' := by
  have kb := fun (W : World) => run_bytes_of_string (P := Tryd.prog) W 9 22 5 s Tryd.underlying9 Tryd.underlying22 Tryd.underlying5
  have G := hide hg
  have H := hide h
  have Bn := hide (fun (o : Obj) => (below_drewN (Below.refl w.heap.size w) 1).alloc (Nat.le_refl _) o)
  clear hg h
  go_enter Tryd.func33, Tryd.ntmps33
  go_wp2_with (go_at_call 10; refine (scan_err _ _ s _ hs (G.out.below (Bn.out _)) (conv_new w.drew s _ _) H.out).mono ?_; rintro e w1 ⟨rfl, hb⟩; have HB := hide ((Bn.out _).trans (hb.mono (Nat.le_of_lt (by simp)))); clear hb)
  go_ret
  exact ⟨rfl, HB.out⟩
theorem told_1 (w : World) (hg : Sg w) : Calls Tryd.prog 33 #[.string ⟨#[120, 49, 32, 61, 32, 48, 55]⟩, .int .i64 1, .int .i64 6] w fun e w' => e = .returned (.bool true) ∧ Below w.heap.size w w' := by
  obtain ⟨l, h⟩ := sc_t1
  exact told_c (sh [120, 49, 32, 61, 32, 48, 55]) 1 6 w (by decide) hg h
theorem told_2 (w : World) (hg : Sg w) : Calls Tryd.prog 33 #[.string ⟨#[38]⟩, .int .i64 1, .int .i64 1] w fun e w' => e = .returned (.bool true) ∧ Below w.heap.size w w' := by
  obtain ⟨l, h⟩ := sc_t2
  exact told_c (sh [38]) 1 1 w (by decide) hg h
theorem told_3 (w : World) (hg : Sg w) : Calls Tryd.prog 33 #[.string ⟨#[97, 66]⟩, .int .i64 1, .int .i64 2] w fun e w' => e = .returned (.bool true) ∧ Below w.heap.size w w' := by
  obtain ⟨l, h⟩ := sc_t3
  exact told_c (sh [97, 66]) 1 2 w (by decide) hg h
theorem own_slice {w : World} {B size n : Nat} {e : TypeId} {v : Value} {xs : List Value} (h : w.ownsRow B e size v n xs) (hn : 0 < n) :
    ∃ g cap, v = .slice (some ⟨g, 0, none⟩) n cap ∧ n ≤ cap ∧ B ≤ g ∧ g < w.heap.size ∧ ∀ j u, xs[j]? = some u → w.cell? ⟨g, j, none⟩ = some u := by
  rcases h.2 with ⟨_, h0⟩ | ⟨g, cap, cur, hv, hge, hh, hc, _, hsz, ht⟩
  · omega
  · refine ⟨g, cap, hv, hc, hge, (Array.getElem?_eq_some_iff.1 hh).1, fun j u hj => ?_⟩
    rw [cell_of_row w g j cur e (0, 0) hh]
    rw [← ht, List.getElem?_take] at hj
    split at hj
    · simpa using hj
    · cases hj
def awS : ByteArray := sh [97, 60, 61, 45, 98, 32, 35, 32, 99, 10, 105, 102]
def awB : Array Value := #[.int .u8 97, .int .u8 60, .int .u8 61, .int .u8 45, .int .u8 98, .int .u8 32, .int .u8 35, .int .u8 32, .int .u8 99, .int .u8 10, .int .u8 105, .int .u8 102]
theorem conv_aw (w : World) : (convert 22 9 (.slice (some ⟨w.heap.size, 0, none⟩) 12 12)).run Tryd.prog (w.alloc (.cells awB 5 (12, 13))) = .ok (.string awS) (w.alloc (.cells awB 5 (12, 13))) := by
  refine conv_at _ awS _ 12 fun j hj => ?_
  rw [add_plain, Nat.zero_add, World.cell?_alloc_mark]
  have h : ∀ j : Fin 12, awB[j.1]? = some (.int .u8 ((awS.data.toList[j.1]'(j.2)).toNat : Int)) := by
    intro j
    match j with
    | 0 | 1 | 2 | 3 | 4 | 5 | 6 | 7 | 8 | 9 | 10 | 11 => rfl
  exact h ⟨j, hj⟩
theorem scan_aw (w : World) (hg : Sg w) : Calls Tryd.prog 10 #[.slice (some ⟨w.heap.size, 0, none⟩) 12 12] (w.alloc (.cells awB 5 (12, 13))) fun e w' =>
    (∃ g cap, e = .returned (.tuple #[.slice (some ⟨g, 0, none⟩) 5 cap, .int .i64 0, .int .i64 0, .int .i64 0]) ∧ 5 ≤ cap ∧ Hid (g < w'.heap.size ∧ ∀ j u, (toks awL)[j]? = some u → w'.cell? ⟨g, j, none⟩ = some u)) ∧ Below w.heap.size w w' := by
  have hb0 := (Below.refl w.heap.size w).alloc (Nat.le_refl _) (.cells awB 5 (12, 13))
  refine (scan_ok (some ⟨w.heap.size, 0, none⟩) 12 awS _ (by decide) (hg.below hb0) (conv_aw w) (l := awL) sc_aw).mono ?_
  rintro e w' ⟨⟨v, rfl, hown⟩, hb⟩
  obtain ⟨g, cap, rfl, h1, h2, h3, h4⟩ := own_slice hown (by decide)
  exact ⟨⟨g, cap, rfl, h1, hide ⟨h3, h4⟩⟩, hb0.trans (hb.mono hb0.size)⟩
def aw5 : Value := .agg #[.int .u8 3, .string ⟨#[105, 102]⟩, .int .i64 0, .int .i64 2, .int .i64 1]
theorem eq_aw (w : World) : (binOp .eql 31 (.agg #[.int .u8 3, .string ⟨#[105, 102]⟩, .int .i64 0, .int .i64 2, .int .i64 1]) (.agg #[.int .u8 3, .string ⟨#[105, 102]⟩, .int .i64 0, .int .i64 2, .int .i64 1])).run Tryd.prog w = .ok (.bool true) w := by kernel_rfl
theorem aw_cells {w : World} {g : Nat} (h : ∀ j u, (toks awL)[j]? = some u → w.cell? ⟨g, j, none⟩ = some u) :
    w.cell? ⟨g, 0, none⟩ = some (.int .u8 1) ∧ w.cell? ⟨g, 6, none⟩ = some (.string ⟨#[60, 61]⟩) ∧ w.cell? ⟨g, 11, none⟩ = some (.string ⟨#[45]⟩) ∧ w.cell? ⟨g, 10, none⟩ = some (.int .u8 4) ∧ w.cell? ⟨g, 16, none⟩ = some (.string ⟨#[98]⟩) ∧
    w.cell? ⟨g, 20, none⟩ = some (.int .u8 3) ∧ w.cell? ⟨g, 21, none⟩ = some (.string ⟨#[105, 102]⟩) ∧ w.cell? ⟨g, 22, none⟩ = some (.int .i64 0) ∧ w.cell? ⟨g, 23, none⟩ = some (.int .i64 2) ∧ w.cell? ⟨g, 24, none⟩ = some (.int .i64 1) :=
  ⟨h 0 _ rfl, h 6 _ rfl, h 11 _ rfl, h 10 _ rfl, h 16 _ rfl, h 20 _ rfl, h 21 _ rfl, h 22 _ rfl, h 23 _ rfl, h 24 _ rfl⟩
set_option maxRecDepth 100000 in
set_option maxHeartbeats 1000000 in
theorem awake_c (w : World) (hg : Sg w) : Calls Tryd.prog 18 #[] w fun e w' => e = .returned (.bool true) ∧ Below w.heap.size w w' := by
  have G := hide hg
  have hq : Tryd.prog.eqGuardType Tryd.prog.depth 31 = false := by kernel_rfl
  have kq := eq_aw
  have kc := fun (w : World) (C : Array Value) (n c : Nat) => Lib.run_convert_bytes_const (P := Tryd.prog) w 22 5 C n c Tryd.underlying22 Tryd.underlying5
  clear hg
  go_enter Tryd.func18, Tryd.ntmps18
  go_wp2_with (first | (go_at_call 10; refine (scan_aw _ G.out).mono ?_; rintro e w1 ⟨⟨g, cap, rfl, hcap, HC⟩, hb1⟩; have HB1 := hide hb1; clear hb1))
  refine (told_1 _ (G.out.below HB1.out)).mono ?_
  rintro e w2 ⟨rfl, hb2⟩
  have HB2 := hide hb2
  clear hb2
  go_wp2_with fail
  refine (told_2 _ ((G.out.below HB1.out).below HB2.out)).mono ?_
  rintro e w3 ⟨rfl, hb3⟩
  have HB3 := hide hb3
  clear hb3
  go_wp2_with fail
  refine (told_3 _ (((G.out.below HB1.out).below HB2.out).below HB3.out)).mono ?_
  rintro e w4 ⟨rfl, hb4⟩
  have HB4 := hide hb4
  clear hb4
  have HH := hide (HB2.out.trans ((HB3.out.trans (HB4.out.mono HB3.out.size)).mono HB2.out.size))
  obtain ⟨a0, a1, a2, a3, a4, a5, a6, a7, a8, a9⟩ := aw_cells (fun j u hj => (HH.out.cell (p := ⟨g, j, none⟩) HC.out.1).trans (HC.out.2 j u hj))
  go_wp2_with fail
  go_ret
  exact ⟨rfl, HB1.out.trans (HH.out.mono HB1.out.size)⟩
end Go.Proofs.YtekdchhengcfoaaDoor
