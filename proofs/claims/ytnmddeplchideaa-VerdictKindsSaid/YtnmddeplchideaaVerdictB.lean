/- The walk of the statement VerdictKinds, its second part: the bits of a verdict. -/
import Derived.Test.YtnmddeplchideaaRows
import Derived.Test.YtnmddeplchideaaTreeWords
import Derived.Test.YtnmddeplchideaaQuietBelow
import Derived.Test.YtnmddeplchideaaVerdictKinds
namespace Go.Proofs.Ytnmddeplchideaa.VerdictKindsW
open Go.Joins Go.ChangeShapes Go.WideShapes Go.RowKit Go.Deep Go.Proofs.Ytnmddeplchideaa
set_option linter.unusedVariables false
set_option linter.unusedSimpArgs false
def orIf (b : Bool) (x k : Int) : Int := if b then bits BinOp.or IntKind.u8 x k else x
theorem bcell {W w1 : World} (hb : Below W.heap.size W w1) : (∀ b o, b < W.heap.size → w1.cell? ⟨b, o, none⟩ = W.cell? ⟨b, o, none⟩) ∧ (∀ b o, b < W.heap.size → w1.frozen? ⟨b, o, none⟩ = W.frozen? ⟨b, o, none⟩) :=
  ⟨fun b o h => hb.cell (p := ⟨b, o, none⟩) h, fun b o h => hb.frozen (p := ⟨b, o, none⟩) h⟩
set_option maxRecDepth 100000 in
/-- The closure that puts a bit in. -/
theorem put_any (b : Bool) (g : Nat) (x k : Int) (w : World) (h : Blk w g 5 #[.int .u8 x]) :
    Calls Try.prog 32 #[.int .u8 k, .bool b, .pointer (some ⟨g, 0, none⟩)] w fun e w' => e = .returned (.tuple #[]) ∧ Blk w' g 5 #[.int .u8 (orIf b x k)] ∧ Below g w w' := by
  have c := h.cell 0
  have z := h.frozen 0
  simp at c
  have H := hide h
  clear h
  cases b
  · go_enter Try.func32, Try.ntmps32
    go_wp2
    go_end0
    exact ⟨rfl, by simpa [orIf] using H.out, Below.refl _ _⟩
  · go_enter Try.func32, Try.ntmps32
    go_wp2
    go_end0
    exact ⟨rfl, by simpa [orIf] using H.out.set_ 0 _, (Below.refl g w).setCell (p := ⟨g, 0, none⟩) (Nat.le_refl _) _⟩
def anyTo (n : Nat) (p : Nat → Bool) : Bool := (List.range n).any p
theorem anyTo_snoc (n : Nat) (p : Nat → Bool) : anyTo (n + 1) p = (anyTo n p || p n) := by simp [anyTo, List.range_succ, List.any_append]
theorem anyTo_true {n k : Nat} {p : Nat → Bool} (hk : k < n) (h : p k = true) : anyTo n p = true := by
  simp only [anyTo, List.any_eq_true, List.mem_range]
  exact ⟨k, hk, h⟩
def pr2 (t : EStuck) : Bool := t.x3 != 5
set_option maxRecDepth 100000 in
theorem cl2 (t : EStuck) (w : World) : Calls Try.prog 34 #[.agg #[.int .i64 t.x0, .int .i64 t.x1, .int .u8 t.x2, .int .u8 t.x3]] w fun e w' => e = .returned (.bool (pr2 t)) ∧ Below w.heap.size w w' := by
  go_enter Try.func34, Try.ntmps34
  go_wp2
  go_ret
  exact ⟨rfl, (Below.refl _ _).alloc (Nat.le_refl _) _⟩
def Fnd2 (n : Nat) (F : Nat → EStuck) (w : World) (e : Ending) (w' : World) : Prop := ∃ r : Int, e = .returned (.int .i64 r) ∧ decide (0 ≤ r) = anyTo n (fun i => pr2 (F i)) ∧ Below w.heap.size w w'
set_option maxRecDepth 100000 in
set_option maxHeartbeats 1000000 in
theorem ix2 (A : Option Addr) (n c : Nat) (F : Nat → EStuck) (w : World) (h : RStuck w A n F) :
    Calls Try.prog 58 #[.slice A n c, .func (.func 34) #[] #[]] w (Fnd2 n F w) := by
  have hn := h.1
  unfold maxLen at hn
  have H := hide h
  clear h
  go_enter Try.func58, Try.ntmps58
  go_wp2_with fail
  go_loopw [8] (fun i wr => ∃ k : Nat, k ≤ n ∧ i = .int .i64 k ∧ Hid (anyTo k (fun i => pr2 (F i)) = false) ∧ Below w.heap.size w wr) (fun i _ => n - (intOf i).toNat)
  case atStart => exact ⟨0, by omega, rfl, hide rfl, Below.refl _ _⟩
  case round =>
    obtain ⟨k, hk, rfl, hno, hB⟩ := hrel
    have HB := hide hB
    by_cases hlt : k < n
    · obtain ⟨a, rfl, ha, q0, q1, q2, q3⟩ := (H.out.below hB).at_ hlt
      clear hB
      by_cases hp : pr2 (F k) = true
      · go_wp2_with fail
        refine (cl2 (F k) _).mono ?_
        rintro e w1 ⟨rfl, hb⟩
        have Hb := hide hb
        clear hb
        go_wp2_with fail
        go_ret
        exact ⟨k, rfl, by rw [anyTo_true hlt hp]; simp, HB.out.trans (Hb.out.mono HB.out.size)⟩
      · have hp' : pr2 (F k) = false := by simpa using hp
        go_wp2_with fail
        refine (cl2 (F k) _).mono ?_
        rintro e w1 ⟨rfl, hb⟩
        have Hb := hide hb
        clear hb
        go_wp2_with fail
        go_roundw
        case rel => exact ⟨k + 1, by omega, by go_num, hide (by rw [anyTo_snoc, hno.out, hp']; rfl), HB.out.trans (Hb.out.mono HB.out.size)⟩
        case measure => simp [intOf]; omega
    · obtain rfl : k = n := by omega
      clear hB
      have E := hide hno.out
      go_wp2_with fail
      go_ret
      exact ⟨-1, rfl, by rw [E.out]; rfl, HB.out⟩
set_option maxRecDepth 100000 in
theorem has2 (A : Option Addr) (n c : Nat) (F : Nat → EStuck) (w : World) (h : RStuck w A n F) :
    Calls Try.prog 33 #[.slice A n c, .func (.func 34) #[] #[]] w fun e w' => e = .returned (.bool (anyTo n (fun i => pr2 (F i)))) ∧ Below w.heap.size w w' := by
  have H := hide h
  clear h
  go_enter Try.func33, Try.ntmps33
  go_wp2_with fail
  refine (ix2 A n c F _ H.out).mono ?_
  rintro e w1 ⟨r, rfl, hr, hb⟩
  have Hb := hide hb
  have Hr := hide hr
  clear hb hr
  go_wp2_with fail
  go_ret
  exact ⟨by rw [← Hr.out]; rfl, Hb.out⟩
def pr3 (t : EStuck) : Bool := t.x3 == 5
set_option maxRecDepth 100000 in
theorem cl3 (t : EStuck) (w : World) : Calls Try.prog 35 #[.agg #[.int .i64 t.x0, .int .i64 t.x1, .int .u8 t.x2, .int .u8 t.x3]] w fun e w' => e = .returned (.bool (pr3 t)) ∧ Below w.heap.size w w' := by
  go_enter Try.func35, Try.ntmps35
  go_wp2
  go_ret
  exact ⟨rfl, (Below.refl _ _).alloc (Nat.le_refl _) _⟩
def Fnd3 (n : Nat) (F : Nat → EStuck) (w : World) (e : Ending) (w' : World) : Prop := ∃ r : Int, e = .returned (.int .i64 r) ∧ decide (0 ≤ r) = anyTo n (fun i => pr3 (F i)) ∧ Below w.heap.size w w'
set_option maxRecDepth 100000 in
set_option maxHeartbeats 1000000 in
theorem ix3 (A : Option Addr) (n c : Nat) (F : Nat → EStuck) (w : World) (h : RStuck w A n F) :
    Calls Try.prog 58 #[.slice A n c, .func (.func 35) #[] #[]] w (Fnd3 n F w) := by
  have hn := h.1
  unfold maxLen at hn
  have H := hide h
  clear h
  go_enter Try.func58, Try.ntmps58
  go_wp2_with fail
  go_loopw [8] (fun i wr => ∃ k : Nat, k ≤ n ∧ i = .int .i64 k ∧ Hid (anyTo k (fun i => pr3 (F i)) = false) ∧ Below w.heap.size w wr) (fun i _ => n - (intOf i).toNat)
  case atStart => exact ⟨0, by omega, rfl, hide rfl, Below.refl _ _⟩
  case round =>
    obtain ⟨k, hk, rfl, hno, hB⟩ := hrel
    have HB := hide hB
    by_cases hlt : k < n
    · obtain ⟨a, rfl, ha, q0, q1, q2, q3⟩ := (H.out.below hB).at_ hlt
      clear hB
      by_cases hp : pr3 (F k) = true
      · go_wp2_with fail
        refine (cl3 (F k) _).mono ?_
        rintro e w1 ⟨rfl, hb⟩
        have Hb := hide hb
        clear hb
        go_wp2_with fail
        go_ret
        exact ⟨k, rfl, by rw [anyTo_true hlt hp]; simp, HB.out.trans (Hb.out.mono HB.out.size)⟩
      · have hp' : pr3 (F k) = false := by simpa using hp
        go_wp2_with fail
        refine (cl3 (F k) _).mono ?_
        rintro e w1 ⟨rfl, hb⟩
        have Hb := hide hb
        clear hb
        go_wp2_with fail
        go_roundw
        case rel => exact ⟨k + 1, by omega, by go_num, hide (by rw [anyTo_snoc, hno.out, hp']; rfl), HB.out.trans (Hb.out.mono HB.out.size)⟩
        case measure => simp [intOf]; omega
    · obtain rfl : k = n := by omega
      clear hB
      have E := hide hno.out
      go_wp2_with fail
      go_ret
      exact ⟨-1, rfl, by rw [E.out]; rfl, HB.out⟩
set_option maxRecDepth 100000 in
theorem has3 (A : Option Addr) (n c : Nat) (F : Nat → EStuck) (w : World) (h : RStuck w A n F) :
    Calls Try.prog 33 #[.slice A n c, .func (.func 35) #[] #[]] w fun e w' => e = .returned (.bool (anyTo n (fun i => pr3 (F i)))) ∧ Below w.heap.size w w' := by
  have H := hide h
  clear h
  go_enter Try.func33, Try.ntmps33
  go_wp2_with fail
  refine (ix3 A n c F _ H.out).mono ?_
  rintro e w1 ⟨r, rfl, hr, hb⟩
  have Hb := hide hb
  have Hr := hide hr
  clear hb hr
  go_wp2_with fail
  go_ret
  exact ⟨by rw [← Hr.out]; rfl, Hb.out⟩
def pr4 (t : EEnd) : Bool := t.x0 == 2
set_option maxRecDepth 100000 in
theorem cl4 (t : EEnd) (w : World) : Calls Try.prog 37 #[.agg #[.int .u8 t.x0, .int .u8 t.x1]] w fun e w' => e = .returned (.bool (pr4 t)) ∧ Below w.heap.size w w' := by
  go_enter Try.func37, Try.ntmps37
  go_wp2
  go_ret
  exact ⟨rfl, (Below.refl _ _).alloc (Nat.le_refl _) _⟩
def Fnd4 (n : Nat) (F : Nat → EEnd) (w : World) (e : Ending) (w' : World) : Prop := ∃ r : Int, e = .returned (.int .i64 r) ∧ decide (0 ≤ r) = anyTo n (fun i => pr4 (F i)) ∧ Below w.heap.size w w'
set_option maxRecDepth 100000 in
set_option maxHeartbeats 1000000 in
theorem ix4 (A : Option Addr) (n c : Nat) (F : Nat → EEnd) (w : World) (h : REnd w A n F) :
    Calls Try.prog 59 #[.slice A n c, .func (.func 37) #[] #[]] w (Fnd4 n F w) := by
  have hn := h.1
  unfold maxLen at hn
  have H := hide h
  clear h
  go_enter Try.func59, Try.ntmps59
  go_wp2_with fail
  go_loopw [8] (fun i wr => ∃ k : Nat, k ≤ n ∧ i = .int .i64 k ∧ Hid (anyTo k (fun i => pr4 (F i)) = false) ∧ Below w.heap.size w wr) (fun i _ => n - (intOf i).toNat)
  case atStart => exact ⟨0, by omega, rfl, hide rfl, Below.refl _ _⟩
  case round =>
    obtain ⟨k, hk, rfl, hno, hB⟩ := hrel
    have HB := hide hB
    by_cases hlt : k < n
    · obtain ⟨a, rfl, ha, q0, q1⟩ := (H.out.below hB).at_ hlt
      clear hB
      by_cases hp : pr4 (F k) = true
      · go_wp2_with fail
        refine (cl4 (F k) _).mono ?_
        rintro e w1 ⟨rfl, hb⟩
        have Hb := hide hb
        clear hb
        go_wp2_with fail
        go_ret
        exact ⟨k, rfl, by rw [anyTo_true hlt hp]; simp, HB.out.trans (Hb.out.mono HB.out.size)⟩
      · have hp' : pr4 (F k) = false := by simpa using hp
        go_wp2_with fail
        refine (cl4 (F k) _).mono ?_
        rintro e w1 ⟨rfl, hb⟩
        have Hb := hide hb
        clear hb
        go_wp2_with fail
        go_roundw
        case rel => exact ⟨k + 1, by omega, by go_num, hide (by rw [anyTo_snoc, hno.out, hp']; rfl), HB.out.trans (Hb.out.mono HB.out.size)⟩
        case measure => simp [intOf]; omega
    · obtain rfl : k = n := by omega
      clear hB
      have E := hide hno.out
      go_wp2_with fail
      go_ret
      exact ⟨-1, rfl, by rw [E.out]; rfl, HB.out⟩
set_option maxRecDepth 100000 in
theorem has4 (A : Option Addr) (n c : Nat) (F : Nat → EEnd) (w : World) (h : REnd w A n F) :
    Calls Try.prog 36 #[.slice A n c, .func (.func 37) #[] #[]] w fun e w' => e = .returned (.bool (anyTo n (fun i => pr4 (F i)))) ∧ Below w.heap.size w w' := by
  have H := hide h
  clear h
  go_enter Try.func36, Try.ntmps36
  go_wp2_with fail
  refine (ix4 A n c F _ H.out).mono ?_
  rintro e w1 ⟨r, rfl, hr, hb⟩
  have Hb := hide hb
  have Hr := hide hr
  clear hb hr
  go_wp2_with fail
  go_ret
  exact ⟨by rw [← Hr.out]; rfl, Hb.out⟩
def pr5 (t : EEnd) : Bool := t.x0 == 3
set_option maxRecDepth 100000 in
theorem cl5 (t : EEnd) (w : World) : Calls Try.prog 38 #[.agg #[.int .u8 t.x0, .int .u8 t.x1]] w fun e w' => e = .returned (.bool (pr5 t)) ∧ Below w.heap.size w w' := by
  go_enter Try.func38, Try.ntmps38
  go_wp2
  go_ret
  exact ⟨rfl, (Below.refl _ _).alloc (Nat.le_refl _) _⟩
def Fnd5 (n : Nat) (F : Nat → EEnd) (w : World) (e : Ending) (w' : World) : Prop := ∃ r : Int, e = .returned (.int .i64 r) ∧ decide (0 ≤ r) = anyTo n (fun i => pr5 (F i)) ∧ Below w.heap.size w w'
set_option maxRecDepth 100000 in
set_option maxHeartbeats 1000000 in
theorem ix5 (A : Option Addr) (n c : Nat) (F : Nat → EEnd) (w : World) (h : REnd w A n F) :
    Calls Try.prog 59 #[.slice A n c, .func (.func 38) #[] #[]] w (Fnd5 n F w) := by
  have hn := h.1
  unfold maxLen at hn
  have H := hide h
  clear h
  go_enter Try.func59, Try.ntmps59
  go_wp2_with fail
  go_loopw [8] (fun i wr => ∃ k : Nat, k ≤ n ∧ i = .int .i64 k ∧ Hid (anyTo k (fun i => pr5 (F i)) = false) ∧ Below w.heap.size w wr) (fun i _ => n - (intOf i).toNat)
  case atStart => exact ⟨0, by omega, rfl, hide rfl, Below.refl _ _⟩
  case round =>
    obtain ⟨k, hk, rfl, hno, hB⟩ := hrel
    have HB := hide hB
    by_cases hlt : k < n
    · obtain ⟨a, rfl, ha, q0, q1⟩ := (H.out.below hB).at_ hlt
      clear hB
      by_cases hp : pr5 (F k) = true
      · go_wp2_with fail
        refine (cl5 (F k) _).mono ?_
        rintro e w1 ⟨rfl, hb⟩
        have Hb := hide hb
        clear hb
        go_wp2_with fail
        go_ret
        exact ⟨k, rfl, by rw [anyTo_true hlt hp]; simp, HB.out.trans (Hb.out.mono HB.out.size)⟩
      · have hp' : pr5 (F k) = false := by simpa using hp
        go_wp2_with fail
        refine (cl5 (F k) _).mono ?_
        rintro e w1 ⟨rfl, hb⟩
        have Hb := hide hb
        clear hb
        go_wp2_with fail
        go_roundw
        case rel => exact ⟨k + 1, by omega, by go_num, hide (by rw [anyTo_snoc, hno.out, hp']; rfl), HB.out.trans (Hb.out.mono HB.out.size)⟩
        case measure => simp [intOf]; omega
    · obtain rfl : k = n := by omega
      clear hB
      have E := hide hno.out
      go_wp2_with fail
      go_ret
      exact ⟨-1, rfl, by rw [E.out]; rfl, HB.out⟩
set_option maxRecDepth 100000 in
theorem has5 (A : Option Addr) (n c : Nat) (F : Nat → EEnd) (w : World) (h : REnd w A n F) :
    Calls Try.prog 36 #[.slice A n c, .func (.func 38) #[] #[]] w fun e w' => e = .returned (.bool (anyTo n (fun i => pr5 (F i)))) ∧ Below w.heap.size w w' := by
  have H := hide h
  clear h
  go_enter Try.func36, Try.ntmps36
  go_wp2_with fail
  refine (ix5 A n c F _ H.out).mono ?_
  rintro e w1 ⟨r, rfl, hr, hb⟩
  have Hb := hide hb
  have Hr := hide hr
  clear hb hr
  go_wp2_with fail
  go_ret
  exact ⟨by rw [← Hr.out]; rfl, Hb.out⟩
end Go.Proofs.Ytnmddeplchideaa.VerdictKindsW
