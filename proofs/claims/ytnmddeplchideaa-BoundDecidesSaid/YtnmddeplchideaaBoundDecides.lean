/- The walk of the statement BoundDecides: for every statement the program and the chapter tell the same; without conditions. -/
import Derived.Test.YtnmddeplchideaaRows
import Derived.Test.YtnmddeplchideaaTreeWords
import Derived.Laws.Small
import Derived.Test.YtnmddeplchideaaQuietBelow
import Derived.Deep.RegionWith
namespace Go.Proofs.Ytnmddeplchideaa.BoundDecidesW
open Go.Joins Go.ChangeShapes Go.WideShapes Go.RowKit Go.Deep Go.Proofs.Ytnmddeplchideaa
set_option linter.unusedVariables false
set_option linter.unusedSimpArgs false

def accE (L : Nat → ByteArray) (C : Nat → Int) : Nat → Int
  | 0 => 0
  | i + 1 => wrap64 (wrap64 (wrap64 (accE L C i + 1) + (if (30000 : Int) < ((L i).size : Int) then 30000 else ((L i).size : Int))) + C i)
set_option maxRecDepth 100000 in
theorem manyE_nil (A : Option Addr) (c : Nat) (w : World) : Calls Try.prog 31 #[.slice A 0 c] w fun e w' => e = .returned (.int .i64 0) ∧ ∃ m, w' = w.drewN m := by
  go_enter Try.func31, Try.ntmps31
  go_wp2_with fail
  go_loop [3, 4] (fun v i => v = .int .i64 0 ∧ i = .int .i64 0) (fun _ _ => 0)
  case atStart => exact ⟨rfl, rfl⟩
  case round =>
    obtain ⟨rfl, rfl⟩ := hrel
    go_wp2_with fail
    go_ret
    exact ⟨rfl, 0, rfl⟩
set_option maxRecDepth 100000 in
set_option maxHeartbeats 1000000 in
theorem manyE (k : Nat) : ∀ (w : World) (A : Option Addr) (n c : Nat), EL w k A n → ∃ v : Int, ∀ m, Calls Try.prog 31 #[.slice A n c] (w.drewN m) fun e w' => e = .returned (.int .i64 v) ∧ ∃ m', w' = (w.drewN m).drewN m' := by
  induction k with
  | zero =>
    intro w A n c h
    obtain rfl : n = 0 := h
    exact ⟨0, fun m => manyE_nil A c _⟩
  | succ k ih =>
    intro w A n c h
    rcases h with rfl | ⟨a, rfl, hn, h⟩
    · exact ⟨0, fun m => manyE_nil A c _⟩
    unfold maxLen at hn
    have hF : ∀ i, i < n → ∃ p : ByteArray × Option Addr × Nat × Nat × Int, p.1.size ≤ maxLen ∧ w.cell? ⟨(a.add (i * 6)).block, (a.add (i * 6)).off + 2, none⟩ = some (.string p.1) ∧ w.cell? ⟨(a.add (i * 6)).block, (a.add (i * 6)).off + 3, none⟩ = some (.slice p.2.1 p.2.2.1 p.2.2.2.1) ∧
        ∀ m, Calls Try.prog 31 #[.slice p.2.1 p.2.2.1 p.2.2.2.1] (w.drewN m) fun e w' => e = .returned (.int .i64 p.2.2.2.2) ∧ ∃ m', w' = (w.drewN m).drewN m' := by
      intro i hi
      obtain ⟨_, s, A', n', c', hs, h1, h2, _, h3⟩ := h i hi
      obtain ⟨v, hv⟩ := ih w A' n' c' h3
      exact ⟨(s, A', n', c', v), hs, h1, h2, hv⟩
    obtain ⟨F, hF⟩ := choose_lt hF
    refine ⟨accE (fun i => (F i).1) (fun i => (F i).2.2.2.2) n, fun m => ?_⟩
    have HF := hide hF
    clear hF h ih
    generalize hacc : accE (fun i => (F i).1) (fun i => (F i).2.2.2.2) = acc
    have Hacc := hide hacc
    clear hacc
    go_enter Try.func31, Try.ntmps31
    go_wp2_with fail
    go_loopw [3, 4] (fun v i wr => ∃ j : Nat, j ≤ n ∧ i = .int .i64 j ∧ v = .int .i64 (acc j) ∧ ∃ q, wr = (w.drewN m).drewN q) (fun _ i _ => n - (intOf i).toNat)
    case atStart => exact ⟨0, by omega, rfl, by rw [← Hacc.out]; rfl, 0, rfl⟩
    case round =>
      obtain ⟨j, hj, rfl, rfl, q, hq⟩ := hrel
      by_cases hlt : j < n
      · obtain ⟨hs, h1, h2, h3⟩ := HF.out j hlt
        have e1 : wr.cell? ⟨(a.add (j * 6)).block, (a.add (j * 6)).off + 2, none⟩ = some (.string (F j).1) := by rw [hq]; exact h1
        have e2 : wr.cell? ⟨(a.add (j * 6)).block, (a.add (j * 6)).off + 3, none⟩ = some (.slice (F j).2.1 (F j).2.2.1 (F j).2.2.2.1) := by rw [hq]; exact h2
        have e3 : ∀ x, Calls Try.prog 31 #[.slice (F j).2.1 (F j).2.2.1 (F j).2.2.2.1] (wr.drewN x) fun e w' => e = .returned (.int .i64 (F j).2.2.2.2) ∧ ∃ m', w' = (wr.drewN x).drewN m' := by
          intro x
          rw [hq, World.drewN_drewN, World.drewN_drewN]
          exact h3 _
        have E3 := hide e3
        have Hq := hide hq
        have Hs : acc (j + 1) = wrap64 (wrap64 (wrap64 (acc j + 1) + (if (30000 : Int) < ((F j).1.size : Int) then 30000 else ((F j).1.size : Int))) + (F j).2.2.2.2) := by rw [← Hacc.out]; rfl
        have HS := hide Hs
        unfold maxLen at hs
        clear h1 h2 h3 e3 hq Hs
        go_wp2_with fail
        go_quiet ((go_at_call 31; exact Calls.quiet_of (E3.out _)))
        go_wp2_with fail
        go_roundw
        case rel => refine ⟨j + 1, by omega, by go_num, ?_, _, by rw [Hq.out, World.drewN_drewN]⟩; rw [HS.out]; 
        case measure => simp [intOf]; omega
      · have hjn : n ≤ j := by omega
        obtain rfl : j = n := by omega
        have Hq := hide hq
        clear hq
        go_wp2_with fail
        go_ret
        exact ⟨rfl, q, Hq.out⟩

def accS (L : Nat → ByteArray) (C1 C2 C3 : Nat → Int) : Nat → Int
  | 0 => 0
  | i + 1 => wrap64 (wrap64 (wrap64 (wrap64 (wrap64 (accS L C1 C2 C3 i + 1) + (if (30000 : Int) < ((L i).size : Int) then 30000 else ((L i).size : Int))) + C1 i) + C2 i) + C3 i)
/-- A slice value, and what is told of it. -/
structure Row where
  A : Option Addr
  n : Nat
  c : Nat
  v : Int
  deriving Inhabited
structure Four where
  s : ByteArray
  x : Row
  y : Row
  z : Row
instance : Inhabited Four := ⟨⟨ByteArray.empty, default, default, default⟩⟩
set_option maxRecDepth 100000 in
theorem manyS_nil (A : Option Addr) (c : Nat) (w : World) : Calls Try.prog 12 #[.slice A 0 c] w fun e w' => e = .returned (.int .i64 0) ∧ ∃ m, w' = w.drewN m := by
  go_enter Try.func12, Try.ntmps12
  go_wp2_with fail
  go_loop [3, 4] (fun v i => v = .int .i64 0 ∧ i = .int .i64 0) (fun _ _ => 0)
  case atStart => exact ⟨rfl, rfl⟩
  case round =>
    obtain ⟨rfl, rfl⟩ := hrel
    go_wp2_with fail
    go_ret
    exact ⟨rfl, 0, rfl⟩
abbrev CallR (f : FuncId) (r : Row) (w : World) : Prop := ∀ m, Calls Try.prog f #[.slice r.A r.n r.c] (w.drewN m) fun e w' => e = .returned (.int .i64 r.v) ∧ ∃ m', w' = (w.drewN m).drewN m'
theorem CallR.drewN {f : FuncId} {r : Row} {w : World} (h : CallR f r w) (q : Nat) : CallR f r (w.drewN q) := fun m => by
  rw [World.drewN_drewN]
  exact h _
set_option maxRecDepth 100000 in
set_option maxHeartbeats 2000000 in
theorem manyS (k : Nat) : ∀ (w : World) (A : Option Addr) (n c : Nat), SL w k A n → ∃ v : Int, ∀ m, Calls Try.prog 12 #[.slice A n c] (w.drewN m) fun e w' => e = .returned (.int .i64 v) ∧ ∃ m', w' = (w.drewN m).drewN m' := by
  induction k with
  | zero =>
    intro w A n c h
    obtain rfl : n = 0 := h
    exact ⟨0, fun m => manyS_nil A c _⟩
  | succ k ih =>
    intro w A n c h
    rcases h with rfl | ⟨a, rfl, hn, h⟩
    · exact ⟨0, fun m => manyS_nil A c _⟩
    unfold maxLen at hn
    have hF : ∀ i, i < n → ∃ p : Four, p.s.size ≤ maxLen ∧ w.cell? ⟨(a.add (i * 10)).block, (a.add (i * 10)).off + 3, none⟩ = some (.string p.s) ∧ w.cell? ⟨(a.add (i * 10)).block, (a.add (i * 10)).off + 5, none⟩ = some (.slice p.x.A p.x.n p.x.c) ∧
        w.cell? ⟨(a.add (i * 10)).block, (a.add (i * 10)).off + 6, none⟩ = some (.slice p.y.A p.y.n p.y.c) ∧ w.cell? ⟨(a.add (i * 10)).block, (a.add (i * 10)).off + 7, none⟩ = some (.slice p.z.A p.z.n p.z.c) ∧
        CallR 31 p.x w ∧ CallR 12 p.y w ∧ CallR 12 p.z w := by
      intro i hi
      obtain ⟨s, A1, A2, A3, n1, c1, n2, c2, n3, c3, hs, h1, h2, h3, h4, m1, m2, m3, h5, h6, h7⟩ := h i hi
      obtain ⟨v1, hv1⟩ := manyE k w A1 n1 c1 h5
      obtain ⟨v2, hv2⟩ := ih w A2 n2 c2 h6
      obtain ⟨v3, hv3⟩ := ih w A3 n3 c3 h7
      exact ⟨⟨s, ⟨A1, n1, c1, v1⟩, ⟨A2, n2, c2, v2⟩, ⟨A3, n3, c3, v3⟩⟩, hs, h1, h2, h3, h4, hv1, hv2, hv3⟩
    obtain ⟨F, hF⟩ := choose_lt hF
    refine ⟨accS (fun i => (F i).s) (fun i => (F i).x.v) (fun i => (F i).y.v) (fun i => (F i).z.v) n, fun m => ?_⟩
    have HF := hide hF
    clear hF h ih
    generalize hacc : accS (fun i => (F i).s) (fun i => (F i).x.v) (fun i => (F i).y.v) (fun i => (F i).z.v) = acc
    have Hacc := hide hacc
    clear hacc
    go_enter Try.func12, Try.ntmps12
    go_wp2_with fail
    go_loopw [3, 4] (fun v i wr => ∃ j : Nat, j ≤ n ∧ i = .int .i64 j ∧ v = .int .i64 (acc j) ∧ ∃ q, wr = (w.drewN m).drewN q) (fun _ i _ => n - (intOf i).toNat)
    case atStart => exact ⟨0, by omega, rfl, by rw [← Hacc.out]; rfl, 0, rfl⟩
    case round =>
      obtain ⟨j, hj, rfl, rfl, q, hq⟩ := hrel
      by_cases hlt : j < n
      · obtain ⟨hs, h1, h2, h3, h4, k1, k2, k3⟩ := HF.out j hlt
        have e1 : wr.cell? ⟨(a.add (j * 10)).block, (a.add (j * 10)).off + 3, none⟩ = some (.string (F j).s) := by rw [hq]; exact h1
        have e2 : wr.cell? ⟨(a.add (j * 10)).block, (a.add (j * 10)).off + 5, none⟩ = some (.slice (F j).x.A (F j).x.n (F j).x.c) := by rw [hq]; exact h2
        have e3 : wr.cell? ⟨(a.add (j * 10)).block, (a.add (j * 10)).off + 6, none⟩ = some (.slice (F j).y.A (F j).y.n (F j).y.c) := by rw [hq]; exact h3
        have e4 : wr.cell? ⟨(a.add (j * 10)).block, (a.add (j * 10)).off + 7, none⟩ = some (.slice (F j).z.A (F j).z.n (F j).z.c) := by rw [hq]; exact h4
        have E1 : Hid (CallR 31 (F j).x wr) := by rw [hq]; exact hide ((k1.drewN _).drewN _)
        have E2 : Hid (CallR 12 (F j).y wr) := by rw [hq]; exact hide ((k2.drewN _).drewN _)
        have E3 : Hid (CallR 12 (F j).z wr) := by rw [hq]; exact hide ((k3.drewN _).drewN _)
        have Hq := hide hq
        have HS : Hid (acc (j + 1) = wrap64 (wrap64 (wrap64 (wrap64 (wrap64 (acc j + 1) + (if (30000 : Int) < ((F j).s.size : Int) then 30000 else ((F j).s.size : Int))) + (F j).x.v) + (F j).y.v) + (F j).z.v)) := by rw [← Hacc.out]; exact hide rfl
        unfold maxLen at hs
        clear h1 h2 h3 h4 k1 k2 k3 hq
        generalize (F j) = p at *
        obtain ⟨s, ⟨A1, n1, c1, v1⟩, ⟨A2, n2, c2, v2⟩, ⟨A3, n3, c3, v3⟩⟩ := p
        simp only at e1 e2 e3 e4 hs
        go_wp2_with fail
        go_quiet (first
          | (go_at_call 31; exact Calls.quiet_of (E1.out _))
          | (go_at_call_of 12 A2; exact Calls.quiet_of (E2.out _))
          | (go_at_call_of 12 A3; exact Calls.quiet_of (E3.out _)))
        go_wp2_with fail
        go_roundw
        case rel => refine ⟨j + 1, by omega, by go_num, ?_, _, by rw [Hq.out, World.drewN_drewN]⟩; rw [HS.out]
        case measure => simp [intOf]; omega
      · have hjn : n ≤ j := by omega
        obtain rfl : j = n := by omega
        have Hq := hide hq
        clear hq
        go_wp2_with fail
        go_ret
        exact ⟨rfl, q, Hq.out⟩

/-! Decides -/
def decB (op kd : Int) (n : Nat) (x : Int) : Bool := op == 8 && (kd == 14 || kd == 10 || kd == 11 || kd == 12 || ((kd == 6 || kd == 7 || kd == 13) && (decide (n < 2) || x != 1)))
set_option maxRecDepth 100000 in
set_option maxHeartbeats 1000000 in
theorem dec_a (op kd rd tu li co x : Int) (nm : ByteArray) (A1 A2 A3 : Option Addr) (n1 c1 n2 c2 n3 c3 : Nat) (w : World) (h : 2 ≤ n1 → ∃ a, A1 = some a ∧ a.block < w.heap.size ∧ w.cell? ⟨a.block, a.off + 6, none⟩ = some (.int .u8 x)) :
    Calls Try.prog 13 #[.agg #[.int .u8 op, .int .u8 kd, .int .u8 rd, .string nm, .int .i64 tu, .slice A1 n1 c1, .slice A2 n2 c2, .slice A3 n3 c3, .int .i64 li, .int .i64 co]] w fun e w' => e = .returned (.bool (decB op kd n1 x)) ∧ Below w.heap.size w w' := by
  by_cases hn : n1 < 2
  · have hn1 : (n1 : Int) < 2 := by omega
    go_enter Try.func13, Try.ntmps13
    go_wp2
    all_goals
      go_ret
      refine ⟨?_, (Below.refl _ _).alloc (Nat.le_refl _) _⟩
      simp_all [decB] <;> (intro h; omega)
  · obtain ⟨a, rfl, hb, hc⟩ := h (by omega)
    have hn1 : ¬ (n1 : Int) < 2 := by omega
    go_enter Try.func13, Try.ntmps13
    go_wp2
    all_goals
      go_ret
      refine ⟨?_, (Below.refl _ _).alloc (Nat.le_refl _) _⟩
      simp_all [decB] <;> (intro h; omega)
set_option maxRecDepth 100000 in
set_option maxHeartbeats 1000000 in
theorem dec_b (op kd rd tu li co x : Int) (nm : ByteArray) (A1 A2 A3 : Option Addr) (n1 c1 n2 c2 n3 c3 : Nat) (w : World) (h : 2 ≤ n1 → ∃ a, A1 = some a ∧ a.block < w.heap.size ∧ w.cell? ⟨a.block, a.off + 6, none⟩ = some (.int .u8 x)) :
    Calls Try.prog 14 #[.agg #[.int .u8 op, .int .u8 kd, .int .u8 rd, .string nm, .int .i64 tu, .slice A1 n1 c1, .slice A2 n2 c2, .slice A3 n3 c3, .int .i64 li, .int .i64 co]] w fun e w' => e = .returned (.bool (decB op kd n1 x)) ∧ Below w.heap.size w w' := by
  by_cases hn : n1 < 2
  · have hn1 : (n1 : Int) < 2 := by omega
    go_enter Try.func14, Try.ntmps14
    go_wp2
    all_goals
      go_ret
      refine ⟨?_, (Below.refl _ _).alloc (Nat.le_refl _) _⟩
      simp_all [decB] <;> (intro h; omega)
  · obtain ⟨a, rfl, hb, hc⟩ := h (by omega)
    have hn1 : ¬ (n1 : Int) < 2 := by omega
    go_enter Try.func14, Try.ntmps14
    go_wp2
    all_goals
      go_ret
      refine ⟨?_, (Below.refl _ _).alloc (Nat.le_refl _) _⟩
      simp_all [decB] <;> (intro h; omega)

/-! The statement -/
theorem bel1 {w w' : World} (o : Obj) (h : Below (w.alloc o).heap.size (w.alloc o) w') : Below w.heap.size w w' := ((Below.refl _ w).alloc (Nat.le_refl _) o).trans (h.mono (by simp))
set_option maxRecDepth 100000 in
set_option maxHeartbeats 2000000 in
theorem walk {H : Type} {enc : TypeId × Value → H} {base : Nat} (W : World) (v0 : Value) (d0 : DataW H) (p0 : List MemPlace) (o0 : Value.okWide Try.prog W .any base 29 v0) (r0 : DataW.Trod enc Try.prog W 0 (fun _ => true) true 29 v0 d0 p0) :
    Calls Try.prog 4 #[v0] W fun e w' => e = .returned (.bool true) ∧ Below W.heap.size W w' := by
  obtain ⟨c0, c1, c2, c3, c4, c5, c6, c7, c8, c9, y0, y1, y2, y3, y4, y5, y6, y7, y8, y9, fuel, rfl, _, h0, h1, h2, h3, h4, h5, h6, h7, h8, h9⟩ := open_agg10 Try.underlying29 (by kernel_rfl) (by kernel_rfl) o0 r0
  obtain ⟨op, e0, _, _⟩ := DataW.trod_int Try.underlying5 h0
  obtain ⟨kd, e1, _, _⟩ := DataW.trod_int Try.underlying5 h1
  obtain ⟨rd, e2, _, _⟩ := DataW.trod_int Try.underlying5 h2
  obtain ⟨nm, e3, _, hnm⟩ := DataW.trod_string Try.underlying9 h3
  obtain ⟨tu, e4, _, _⟩ := DataW.trod_int Try.underlying3 h4
  obtain ⟨A1, n1, c1', rfl, m1, hE⟩ := EL.of fuel h5
  obtain ⟨A2, n2, c2', rfl, m2, hS2⟩ := SL.of fuel h6
  obtain ⟨A3, n3, c3', rfl, m3, hS3⟩ := SL.of fuel h7
  obtain ⟨li, e8, _, _⟩ := DataW.trod_int Try.underlying3 h8
  obtain ⟨co, e9, _, _⟩ := DataW.trod_int Try.underlying3 h9
  simp at e0 e1 e2 e3 e4 e8 e9
  subst e0 e1 e2 e3 e4 e8 e9
  clear o0 r0 h0 h1 h2 h3 h4 h5 h6 h7 h8 h9
  obtain ⟨x, hx⟩ : ∃ x, 2 ≤ n1 → ∃ a, A1 = some a ∧ a.block < W.heap.size ∧ W.cell? ⟨a.block, a.off + 6, none⟩ = some (.int .u8 x) := by
    cases fuel with
    | zero => obtain rfl : n1 = 0 := hE; exact ⟨0, fun h => by omega⟩
    | succ k =>
      rcases hE with rfl | ⟨a, rfl, _, h⟩
      · exact ⟨0, fun h => by omega⟩
      · rcases Nat.lt_or_ge n1 2 with hlt | hge
        · exact ⟨0, fun h => by omega⟩
        · obtain ⟨⟨z, hz⟩, _⟩ := h 1 (by omega)
          refine ⟨z, fun _ => ⟨a, rfl, ?_, hz⟩⟩
          rcases Nat.lt_or_ge a.block W.heap.size with h | h
          · exact h
          · have : W.cell? (a.add (1 * 6)) = none := by simp [World.cell?, Addr.add, Array.getElem?_eq_none h]
            rw [this] at hz; cases hz
  let B := Obj.cells #[.int .u8 op, .int .u8 kd, .int .u8 rd, .string nm, .int .i64 tu, .slice A1 n1 c1', .slice A2 n2 c2', .slice A3 n3 c3', .int .i64 li, .int .i64 co] 29
  have hB : Below W.heap.size W ((W.alloc B).alloc B) := ((Below.refl _ _).alloc (Nat.le_refl _) _).alloc (by simp) _
  obtain ⟨v, hv⟩ := manyS (fuel + 1) ((W.alloc B).alloc B) (some ⟨W.heap.size + 1, 0, none⟩) 1 1 (.inr ⟨_, rfl, by unfold maxLen; omega, fun i hi => by
    obtain rfl : i = 0 := by omega
    refine ⟨nm, A1, A2, A3, n1, c1', n2, c2', n3, c3', hnm, ?_, ?_, ?_, ?_, m1, m2, m3, hE.keep fun p hp => hB.cell hp, hS2.keep fun p hp => hB.cell hp, hS3.keep fun p hp => hB.cell hp⟩
    all_goals
      simp only [Nat.zero_mul, Nat.zero_add, Addr.add, if_true]
      rw [World.cell?_alloc_at _ _ _ _ (by simp)]
      rfl⟩)
  have HV := hide hv
  have HX := hide hx
  clear hv hx hE hS2 hS3
  go_enter Try.func4, Try.ntmps4
  go_wp2_with fail
  refine (HV.out 0).mono ?_
  rintro e W2 ⟨rfl, m', hW2⟩
  have hne : Nonempty (BelowOf W2) := ⟨⟨_, Below.refl _ _⟩⟩
  have hs2 : W2.heap.size = W.heap.size + 2 := by rw [hW2]; simp [World.drewN]
  have hB2 : Below W.heap.size W W2 := by rw [hW2]; exact below_drewN (below_drewN hB 0) m'
  have hall : ∀ (p : BelowOf W2) (i : Nat), p.world.cell? ⟨W.heap.size, i, none⟩ = #[.int .u8 op, .int .u8 kd, .int .u8 rd, .string nm, .int .i64 tu, .slice A1 n1 c1', .slice A2 n2 c2', .slice A3 n3 c3', .int .i64 li, .int .i64 co][i]? := by
    intro p i
    rw [p.below.cell (p := ⟨W.heap.size, i, none⟩) (by show W.heap.size < W2.heap.size; omega), hW2]
    show ((W.alloc B).alloc B).cell? _ = _
    rw [World.cell?_alloc_past _ _ _ (by simp), World.cell?_alloc_at _ _ _ _ rfl]
  have q0 := fun p => hall p 0
  have q1 := fun p => hall p 1
  have q2 := fun p => hall p 2
  have q3 := fun p => hall p 3
  have q4 := fun p => hall p 4
  have q5 := fun p => hall p 5
  have q6 := fun p => hall p 6
  have q7 := fun p => hall p 7
  have q8 := fun p => hall p 8
  have q9 := fun p => hall p 9
  have HX2 : Hid (∀ p : BelowOf W2, 2 ≤ n1 → ∃ a, A1 = some a ∧ a.block < p.world.heap.size ∧ p.world.cell? ⟨a.block, a.off + 6, none⟩ = some (.int .u8 x)) := hide fun p h2 => by
    obtain ⟨a, rfl, ha, hc⟩ := HX.out h2
    have hs := p.below.size
    exact ⟨a, rfl, by omega, (p.below.cell (p := ⟨a.block, a.off + 6, none⟩) (by show a.block < W2.heap.size; omega)).trans ((hB2.cell (p := ⟨a.block, a.off + 6, none⟩) ha).trans hc)⟩
  simp only [List.getElem?_toArray, List.getElem?_cons_zero, List.getElem?_cons_succ] at q0 q1 q2 q3 q4 q5 q6 q7 q8 q9
  have HB2 := hide hB2
  clear hall hB2 hW2 HX HV hB hs2
  go_wp2_with fail
  · go_ret
    exact ⟨rfl, HB2.out⟩
  · refine wp_region_quiet_below (by kernel_rfl) (by kernel_rfl) ?_
    repeat (go_big_quiet_step (first
      | (go_at_call 13; refine calls_below (dec_a _ _ _ _ _ _ _ _ _ _ _ _ _ _ _ _ _ _ (HX2.out _)))
      | (go_at_call 14; refine calls_below (dec_b _ _ _ _ _ _ _ _ _ _ _ _ _ _ _ _ _ _ (HX2.out _)))))
    refine wpQuiet_nil ?_
    rintro _ ⟨⟨Wq, hq⟩, rfl⟩
    go_wp2
    go_ret
    exact ⟨by simp, HB2.out.trans (hq.mono HB2.out.size)⟩
end Go.Proofs.Ytnmddeplchideaa.BoundDecidesW
