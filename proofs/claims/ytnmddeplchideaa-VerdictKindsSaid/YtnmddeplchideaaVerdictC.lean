/- The walk of the statement VerdictKinds, its third part: a verdict by value; its bits, told twice. -/
import Derived.Test.YtnmddeplchideaaRows
import Derived.Test.YtnmddeplchideaaTreeWords
import Derived.Test.YtnmddeplchideaaQuietBelow
import Derived.Test.YtnmddeplchideaaVerdictB
namespace Go.Proofs.Ytnmddeplchideaa.VerdictKindsW
open Go.Joins Go.ChangeShapes Go.WideShapes Go.RowKit Go.Deep Go.Proofs.Ytnmddeplchideaa
set_option linter.unusedVariables false
set_option linter.unusedSimpArgs false
/-- A row of texts. -/
def RStr (w : World) (A : Option Addr) (n : Nat) (F : Nat → ByteArray) : Prop :=
  n ≤ maxLen ∧ ((n = 0) ∨ ∃ a, A = some a ∧ a.block < w.heap.size ∧ ∀ i, i < n → w.cell? (a.add i) = some (.string (F i)))
theorem RStr.below {w w' : World} {A : Option Addr} {n : Nat} {F : Nat → ByteArray} (h : RStr w A n F) (hb : Below w.heap.size w w') : RStr w' A n F := by
  rcases h with ⟨hn, rfl | ⟨a, rfl, ha, h⟩⟩
  · exact ⟨hn, .inl rfl⟩
  · exact ⟨hn, .inr ⟨a, rfl, Nat.lt_of_lt_of_le ha hb.size, fun i hi => (hb.cell (by rw [block_of_add]; exact ha)).trans (h i hi)⟩⟩
theorem RStr.at_ {w : World} {A : Option Addr} {n : Nat} {F : Nat → ByteArray} (h : RStr w A n F) {i : Nat} (hi : i < n) : ∃ a, A = some a ∧ a.block < w.heap.size ∧ w.cell? (a.add i) = some (.string (F i)) := by
  rcases h with ⟨_, rfl | ⟨a, rfl, ha, h⟩⟩
  · omega
  · exact ⟨a, rfl, ha, h i hi⟩
/-- A verdict. -/
structure Vd where
  A0 : Option Addr
  n0 : Nat
  c0 : Nat
  A1 : Option Addr
  n1 : Nat
  c1 : Nat
  A2 : Option Addr
  n2 : Nat
  c2 : Nat
  A3 : Option Addr
  n3 : Nat
  c3 : Nat
  A4 : Option Addr
  n4 : Nat
  c4 : Nat
  A5 : Option Addr
  n5 : Nat
  c5 : Nat
  F0 : Nat → EEnd
  F1 : Nat → EStuck
  F2 : Nat → ELeak
  F3 : Nat → EReceive
  F4 : Nat → EMessage
  F5 : Nat → ByteArray
def Vd.cs (v : Vd) : Array Value := #[.slice v.A0 v.n0 v.c0, .slice v.A1 v.n1 v.c1, .slice v.A2 v.n2 v.c2, .slice v.A3 v.n3 v.c3, .slice v.A4 v.n4 v.c4, .slice v.A5 v.n5 v.c5]
structure VdOk (w : World) (v : Vd) : Prop where
  r0 : REnd w v.A0 v.n0 v.F0
  r1 : RStuck w v.A1 v.n1 v.F1
  r2 : RLeak w v.A2 v.n2 v.F2
  r3 : RReceive w v.A3 v.n3 v.F3
  r4 : RMessage w v.A4 v.n4 v.F4
  r5 : RStr w v.A5 v.n5 v.F5
theorem VdOk.below {w w' : World} {v : Vd} (h : VdOk w v) (hb : Below w.heap.size w w') : VdOk w' v := ⟨h.r0.below hb, h.r1.below hb, h.r2.below hb, h.r3.below hb, h.r4.below hb, h.r5.below hb⟩
/-- A block with a verdict. -/
structure Box (w : World) (g : Nat) (v : Vd) : Prop where
  lt : g < w.heap.size
  at_ : ∀ i, w.cell? ⟨g, i, none⟩ = v.cs[i]?
theorem Box.q0 {w : World} {g : Nat} {v : Vd} (h : Box w g v) : w.cell? ⟨g, 0, none⟩ = some (.slice v.A0 v.n0 v.c0) := h.at_ 0
theorem Box.q1 {w : World} {g : Nat} {v : Vd} (h : Box w g v) : w.cell? ⟨g, 1, none⟩ = some (.slice v.A1 v.n1 v.c1) := h.at_ 1
theorem Box.q2 {w : World} {g : Nat} {v : Vd} (h : Box w g v) : w.cell? ⟨g, 2, none⟩ = some (.slice v.A2 v.n2 v.c2) := h.at_ 2
theorem Box.q3 {w : World} {g : Nat} {v : Vd} (h : Box w g v) : w.cell? ⟨g, 3, none⟩ = some (.slice v.A3 v.n3 v.c3) := h.at_ 3
theorem Box.q4 {w : World} {g : Nat} {v : Vd} (h : Box w g v) : w.cell? ⟨g, 4, none⟩ = some (.slice v.A4 v.n4 v.c4) := h.at_ 4
theorem Box.q5 {w : World} {g : Nat} {v : Vd} (h : Box w g v) : w.cell? ⟨g, 5, none⟩ = some (.slice v.A5 v.n5 v.c5) := h.at_ 5
theorem Box.below {B : Nat} {w w' : World} {g : Nat} {v : Vd} (h : Box w g v) (hb : Below B w w') (hg : g < B) : Box w' g v := ⟨Nat.lt_of_lt_of_le h.lt hb.size, fun i => (hb.cell (p := ⟨g, i, none⟩) hg).trans (h.at_ i)⟩
theorem Box.belowS {w w' : World} {g : Nat} {v : Vd} (h : Box w g v) (hb : Below w.heap.size w w') : Box w' g v := h.below hb h.lt
theorem Box.new (w : World) (v : Vd) : Box (w.alloc (.cells v.cs 39)) w.heap.size v := ⟨by simp, fun i => World.cell?_alloc_at _ _ _ _ rfl⟩
theorem Box.new' (w : World) (v : Vd) : Box (w.alloc (.cells #[.slice v.A0 v.n0 v.c0, .slice v.A1 v.n1 v.c1, .slice v.A2 v.n2 v.c2, .slice v.A3 v.n3 v.c3, .slice v.A4 v.n4 v.c4, .slice v.A5 v.n5 v.c5] 39)) w.heap.size v := Box.new w v
theorem Box.alloc {w : World} {g : Nat} {v : Vd} (h : Box w g v) (o : Obj) : Box (w.alloc o) g v := h.belowS ((Below.refl _ _).alloc (Nat.le_refl _) o)
/-- What stands while bits are put in. -/
structure Inv (w W : World) (v : Vd) (x : Int) : Prop where
  k : Blk W (w.heap.size + 1) 5 #[.int .u8 x]
  q : Box W w.heap.size v
  b : Below w.heap.size w W
  s : w.heap.size + 1 < W.heap.size
theorem Inv.below {w W W' : World} {v : Vd} {x : Int} (h : Inv w W v x) (hb : Below W.heap.size W W') : Inv w W' v x :=
  ⟨h.k.below hb h.s, h.q.belowS hb, h.b.trans (hb.mono h.b.size), Nat.lt_of_lt_of_le h.s hb.size⟩
theorem Inv.put {w W W' : World} {v : Vd} {x y : Int} (h : Inv w W v x) (hk : Blk W' (w.heap.size + 1) 5 #[.int .u8 y]) (hb : Below (w.heap.size + 1) W W') : Inv w W' v y :=
  ⟨hk, h.q.below hb (by omega), h.b.trans (hb.mono (by omega)), Nat.lt_of_lt_of_le h.s hb.size⟩
theorem Inv.start (w : World) (v : Vd) : Inv w ((w.alloc (.cells #[.slice v.A0 v.n0 v.c0, .slice v.A1 v.n1 v.c1, .slice v.A2 v.n2 v.c2, .slice v.A3 v.n3 v.c3, .slice v.A4 v.n4 v.c4, .slice v.A5 v.n5 v.c5] 39)).alloc (.cells #[.int .u8 0] 5)) v 0 := by
  refine ⟨?_, (Box.new' w v).alloc _, ((Below.refl _ _).alloc (Nat.le_refl _) _).alloc (by simp) _, by simp⟩
  have h := Blk.new (w.alloc (.cells #[.slice v.A0 v.n0 v.c0, .slice v.A1 v.n1 v.c1, .slice v.A2 v.n2 v.c2, .slice v.A3 v.n3 v.c3, .slice v.A4 v.n4 v.c4, .slice v.A5 v.n5 v.c5] 39)) 5 #[.int .u8 0]
  simpa using h
def kD (v : Vd) : Bool := anyTo v.n1 (fun i => pr2 (v.F1 i))
def kP (v : Vd) : Bool := anyTo v.n1 (fun i => pr3 (v.F1 i))
def kF (v : Vd) : Bool := anyTo v.n0 (fun i => pr4 (v.F0 i))
def kG (v : Vd) : Bool := anyTo v.n0 (fun i => pr5 (v.F0 i))
def kindsN (v : Vd) : Int := orIf (decide (0 < v.n4)) (orIf (decide (0 < v.n2)) (orIf (decide (0 < v.n5)) (orIf (kG v) (orIf (kF v) (orIf (kP v) (orIf (kD v) 0 1) 2) 4) 8) 16) 32) 64
set_option maxRecDepth 100000 in
set_option maxHeartbeats 4000000 in
theorem kinds_a (v : Vd) (w : World) (h : VdOk w v) : Calls Try.prog 16 #[.agg #[.slice v.A0 v.n0 v.c0, .slice v.A1 v.n1 v.c1, .slice v.A2 v.n2 v.c2, .slice v.A3 v.n3 v.c3, .slice v.A4 v.n4 v.c4, .slice v.A5 v.n5 v.c5]] w fun e w' => e = .returned (.int .u8 (kindsN v)) ∧ Below w.heap.size w w' := by
  have H := hide h
  have HI := hide (Inv.start w v)
  clear h
  go_enter Try.func16, Try.ntmps16
  have q := HI.out.q.q1
  go_wp2_with fail
  clear q
  refine (has2 v.A1 v.n1 v.c1 v.F1 _ (H.out.below HI.out.b).r1).mono ?_
  rintro e W1 ⟨rfl, hb⟩
  have HI1 := hide (HI.out.below hb)
  clear HI hb
  go_wp2_with fail
  refine (put_any _ _ _ _ _ HI1.out.k).mono ?_
  rintro e W2 ⟨rfl, hk, hb⟩
  have HI := hide (HI1.out.put hk hb)
  clear HI1 hk hb
  have q := HI.out.q.q1
  go_wp2_with fail
  clear q
  refine (has3 v.A1 v.n1 v.c1 v.F1 _ (H.out.below HI.out.b).r1).mono ?_
  rintro e W1 ⟨rfl, hb⟩
  have HI1 := hide (HI.out.below hb)
  clear HI hb
  go_wp2_with fail
  refine (put_any _ _ _ _ _ HI1.out.k).mono ?_
  rintro e W2 ⟨rfl, hk, hb⟩
  have HI := hide (HI1.out.put hk hb)
  clear HI1 hk hb
  have q := HI.out.q.q0
  go_wp2_with fail
  clear q
  refine (has4 v.A0 v.n0 v.c0 v.F0 _ (H.out.below HI.out.b).r0).mono ?_
  rintro e W1 ⟨rfl, hb⟩
  have HI1 := hide (HI.out.below hb)
  clear HI hb
  go_wp2_with fail
  refine (put_any _ _ _ _ _ HI1.out.k).mono ?_
  rintro e W2 ⟨rfl, hk, hb⟩
  have HI := hide (HI1.out.put hk hb)
  clear HI1 hk hb
  have q := HI.out.q.q0
  go_wp2_with fail
  clear q
  refine (has5 v.A0 v.n0 v.c0 v.F0 _ (H.out.below HI.out.b).r0).mono ?_
  rintro e W1 ⟨rfl, hb⟩
  have HI1 := hide (HI.out.below hb)
  clear HI hb
  go_wp2_with fail
  refine (put_any _ _ _ _ _ HI1.out.k).mono ?_
  rintro e W2 ⟨rfl, hk, hb⟩
  have HI := hide (HI1.out.put hk hb)
  clear HI1 hk hb
  have q := HI.out.q.q5
  go_wp2_with fail
  clear q
  refine (put_any _ _ _ _ _ HI.out.k).mono ?_
  rintro e W2 ⟨rfl, hk, hb⟩
  have HI1 := hide (HI.out.put hk hb)
  clear HI hk hb
  have HI := hide HI1.out
  clear HI1
  have q := HI.out.q.q2
  go_wp2_with fail
  clear q
  refine (put_any _ _ _ _ _ HI.out.k).mono ?_
  rintro e W2 ⟨rfl, hk, hb⟩
  have HI1 := hide (HI.out.put hk hb)
  clear HI hk hb
  have HI := hide HI1.out
  clear HI1
  have q := HI.out.q.q4
  go_wp2_with fail
  clear q
  refine (put_any _ _ _ _ _ HI.out.k).mono ?_
  rintro e W2 ⟨rfl, hk, hb⟩
  have HI1 := hide (HI.out.put hk hb)
  clear HI hk hb
  have HI := hide HI1.out
  clear HI1
  have q := HI.out.k.cell 0
  simp at q
  go_wp2_with fail
  go_ret
  exact ⟨by simp [kindsN, kD, kP, kF, kG], HI.out.b⟩
set_option maxRecDepth 100000 in
theorem clean_a (v : Vd) (w : World) (h : VdOk w v) : Calls Try.prog 18 #[.agg #[.slice v.A0 v.n0 v.c0, .slice v.A1 v.n1 v.c1, .slice v.A2 v.n2 v.c2, .slice v.A3 v.n3 v.c3, .slice v.A4 v.n4 v.c4, .slice v.A5 v.n5 v.c5]] w fun e w' => e = .returned (.bool (kindsN v == 0)) ∧ Below w.heap.size w w' := by
  have H := hide h
  clear h
  go_enter Try.func18, Try.ntmps18
  go_wp2_with fail
  have hB : Below w.heap.size w (w.alloc (.cells #[.slice v.A0 v.n0 v.c0, .slice v.A1 v.n1 v.c1, .slice v.A2 v.n2 v.c2, .slice v.A3 v.n3 v.c3, .slice v.A4 v.n4 v.c4, .slice v.A5 v.n5 v.c5] 39)) := (Below.refl _ _).alloc (Nat.le_refl _) _
  refine (kinds_a v _ (H.out.below hB)).mono ?_
  rintro e W1 ⟨rfl, hb⟩
  have HB := hide (hB.trans (hb.mono hB.size))
  clear hB hb
  go_wp2_with fail
  go_ret
  exact ⟨rfl, HB.out⟩
theorem orIf_true (x k : Int) : orIf true x k = bits BinOp.or IntKind.u8 x k := rfl
theorem orIf_false (x k : Int) : orIf false x k = x := rfl
theorem or2 (d p : Bool) : bits BinOp.or IntKind.u8 (orIf p (orIf d 0 1) 2) 2 = orIf true (orIf d 0 1) 2 := by cases d <;> cases p <;> rfl
theorem or1 (d p : Bool) : bits BinOp.or IntKind.u8 (orIf p (orIf d 0 1) 2) 1 = orIf p (orIf true 0 1) 2 := by cases d <;> cases p <;> rfl
theorem or4 (d p f g : Bool) : bits BinOp.or IntKind.u8 (orIf g (orIf f (orIf p (orIf d 0 1) 2) 4) 8) 4 = orIf g (orIf true (orIf p (orIf d 0 1) 2) 4) 8 := by cases d <;> cases p <;> cases f <;> cases g <;> rfl
theorem or8 (d p f g : Bool) : bits BinOp.or IntKind.u8 (orIf g (orIf f (orIf p (orIf d 0 1) 2) 4) 8) 8 = orIf true (orIf f (orIf p (orIf d 0 1) 2) 4) 8 := by cases d <;> cases p <;> cases f <;> cases g <;> rfl
def m1 (v : Vd) (k : Nat) : Int := orIf (anyTo k (fun i => pr3 (v.F1 i))) (orIf (anyTo k (fun i => pr2 (v.F1 i))) 0 1) 2
theorem m1_yes (v : Vd) (k : Nat) (h : pr3 (v.F1 k) = true) : bits BinOp.or IntKind.u8 (m1 v k) 2 = m1 v (k + 1) := by
  have h2 : pr2 (v.F1 k) = false := by simp [pr2, pr3] at *; exact h
  simp only [m1, anyTo_snoc, h, h2, Bool.or_true, Bool.or_false]
  exact or2 _ _
theorem m1_no (v : Vd) (k : Nat) (h : pr3 (v.F1 k) = false) : bits BinOp.or IntKind.u8 (m1 v k) 1 = m1 v (k + 1) := by
  have h2 : pr2 (v.F1 k) = true := by simp [pr2, pr3] at *; exact h
  simp only [m1, anyTo_snoc, h, h2, Bool.or_true, Bool.or_false]
  exact or1 _ _
def m2 (v : Vd) (k : Nat) : Int := orIf (anyTo k (fun i => pr5 (v.F0 i))) (orIf (anyTo k (fun i => pr4 (v.F0 i))) (m1 v v.n1) 4) 8
theorem m2_f (v : Vd) (k : Nat) (h : (v.F0 k).x0 = 2) : bits BinOp.or IntKind.u8 (m2 v k) 4 = m2 v (k + 1) := by
  have h1 : pr4 (v.F0 k) = true := by simp [pr4, h]
  have h2 : pr5 (v.F0 k) = false := by simp [pr5, h]
  simp only [m2, anyTo_snoc, h1, h2, Bool.or_true, Bool.or_false, m1]
  exact or4 _ _ _ _
theorem m2_g (v : Vd) (k : Nat) (h : (v.F0 k).x0 = 3) : bits BinOp.or IntKind.u8 (m2 v k) 8 = m2 v (k + 1) := by
  have h1 : pr4 (v.F0 k) = false := by simp [pr4, h]
  have h2 : pr5 (v.F0 k) = true := by simp [pr5, h]
  simp only [m2, anyTo_snoc, h1, h2, Bool.or_true, Bool.or_false, m1]
  exact or8 _ _ _ _
theorem m2_n (v : Vd) (k : Nat) (h : ¬ (v.F0 k).x0 = 2) (h' : ¬ (v.F0 k).x0 = 3) : m2 v k = m2 v (k + 1) := by
  have h1 : pr4 (v.F0 k) = false := by simp [pr4, h]
  have h2 : pr5 (v.F0 k) = false := by simp [pr5, h']
  simp only [m2, anyTo_snoc, h1, h2, Bool.or_false]
set_option maxRecDepth 100000 in
set_option maxHeartbeats 4000000 in
theorem kinds_b (v : Vd) (w : World) (h : VdOk w v) : Calls Try.prog 17 #[.agg #[.slice v.A0 v.n0 v.c0, .slice v.A1 v.n1 v.c1, .slice v.A2 v.n2 v.c2, .slice v.A3 v.n3 v.c3, .slice v.A4 v.n4 v.c4, .slice v.A5 v.n5 v.c5]] w fun e w' => e = .returned (.int .u8 (kindsN v)) ∧ Below w.heap.size w w' := by
  have hm1 := h.r1.1
  have hm0 := h.r0.1
  unfold maxLen at hm1 hm0
  have hB : Below w.heap.size w (w.alloc (.cells #[.slice v.A0 v.n0 v.c0, .slice v.A1 v.n1 v.c1, .slice v.A2 v.n2 v.c2, .slice v.A3 v.n3 v.c3, .slice v.A4 v.n4 v.c4, .slice v.A5 v.n5 v.c5] 39)) := (Below.refl _ _).alloc (Nat.le_refl _) _
  have H := hide (h.below hB)
  have HQ := hide (Box.new' w v)
  have HB := hide hB
  clear h hB
  go_enter Try.func17, Try.ntmps17
  go_wp2_with fail
  obtain ⟨W0, hW0⟩ : ∃ W0, W0 = (w.alloc (.cells #[.slice v.A0 v.n0 v.c0, .slice v.A1 v.n1 v.c1, .slice v.A2 v.n2 v.c2, .slice v.A3 v.n3 v.c3, .slice v.A4 v.n4 v.c4, .slice v.A5 v.n5 v.c5] 39)) := ⟨_, rfl⟩
  rw [← hW0] at H HQ HB ⊢
  clear hW0
  go_loop [3, 4] (fun x i => ∃ k : Nat, k ≤ v.n1 ∧ i = .int .i64 k ∧ x = .int .u8 (m1 v k)) (fun _ i => v.n1 - (intOf i).toNat)
  case atStart => exact ⟨0, by omega, rfl, rfl⟩
  case round =>
    obtain ⟨k, hk, rfl, rfl⟩ := hrel
    have q1 := HQ.out.q1
    by_cases hlt : k < v.n1
    · obtain ⟨a, ea, ha, _, _, _, h3⟩ := H.out.r1.at_ hlt
      rw [ea] at q1
      have EA := hide ea
      clear ea
      by_cases h5 : (v.F1 k).x3 = 5
      · have E := hide (m1_yes v k (by simp [pr3, h5]))
        have h5' : ((v.F1 k).x3 == 5) = true := by simp [h5]
        clear h5
        go_wp2_with fail
        go_round
        case rel => exact ⟨k + 1, by omega, by go_num, by rw [E.out]⟩
        case measure => simp [intOf]; omega
      · have E := hide (m1_no v k (by simp [pr3, h5]))
        have h5' : ((v.F1 k).x3 == 5) = false := by simp [h5]
        clear h5
        go_wp2_with fail
        go_round
        case rel => exact ⟨k + 1, by omega, by go_num, by rw [E.out]⟩
        case measure => simp [intOf]; omega
    · obtain rfl : k = v.n1 := by omega
      go_wp2_with fail
      clear q1
      go_loop [3, 5] (fun x i => ∃ k : Nat, k ≤ v.n0 ∧ i = .int .i64 k ∧ x = .int .u8 (m2 v k)) (fun _ i => v.n0 - (intOf i).toNat)
      case atStart => exact ⟨0, by omega, rfl, rfl⟩
      case round =>
        obtain ⟨k, hk, rfl, rfl⟩ := hrel
        have q0 := HQ.out.q0
        by_cases hlt : k < v.n0
        · obtain ⟨a, ea, ha, h0, _⟩ := H.out.r0.at_ hlt
          rw [ea] at q0
          have EA := hide ea
          clear ea
          by_cases h2 : (v.F0 k).x0 = 2
          · have E := hide (m2_f v k h2)
            have e2 : ((v.F0 k).x0 == 2) = true := by simp [h2]
            have e3 : ((v.F0 k).x0 == 3) = false := by simp [h2]
            clear h2
            go_wp2_with fail
            go_round
            case rel => exact ⟨k + 1, by omega, by go_num, by rw [E.out]⟩
            case measure => simp [intOf]; omega
          · by_cases h3 : (v.F0 k).x0 = 3
            · have E := hide (m2_g v k h3)
              have e2 : ((v.F0 k).x0 == 2) = false := by simp [h3]
              have e3 : ((v.F0 k).x0 == 3) = true := by simp [h3]
              clear h3 h2
              go_wp2_with fail
              go_round
              case rel => exact ⟨k + 1, by omega, by go_num, by rw [E.out]⟩
              case measure => simp [intOf]; omega
            · have E := hide (m2_n v k h2 h3)
              have e2 : ((v.F0 k).x0 == 2) = false := by simp [h2]
              have e3 : ((v.F0 k).x0 == 3) = false := by simp [h3]
              clear h3 h2
              go_wp2_with fail
              go_round
              case rel => exact ⟨k + 1, by omega, by go_num, by rw [← E.out]⟩
              case measure => simp [intOf]; omega
        · obtain rfl : k = v.n0 := by omega
          have q2 := HQ.out.q2
          have q4 := HQ.out.q4
          have q5 := HQ.out.q5
          go_wp2_with fail
          all_goals
            go_ret
            refine ⟨?_, HB.out⟩
            simp [kindsN, kD, kP, kF, kG, m2, m1, orIf_true, orIf_false, *]
end Go.Proofs.Ytnmddeplchideaa.VerdictKindsW
