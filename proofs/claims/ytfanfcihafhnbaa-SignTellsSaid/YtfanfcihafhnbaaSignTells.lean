/- The walk of the statement SignTells. -/
import Derived.Test.YtfanfcihafhnbaaRows
import Derived.Test.YtfanfcihafhnbaaSignJ
import Derived.Test.YtfanfcihafhnbaaSignK
import Derived.Test.YtfanfcihafhnbaaSignO
import Derived.Test.YtfanfcihafhnbaaSignQ
namespace Go.Proofs.Ytfanfcihafhnbaa.SignTellsW
open Go.Joins Go.ChangeShapes Go.WideShapes Go.RowKit Go.Deep Go.Proofs.Ytfanfcihafhnbaa
set_option linter.unusedVariables false
set_option linter.unusedSimpArgs false
set_option maxRecDepth 100000 in
theorem eqCh (x : Ch) (w : World) : (binOp .eql 24 (.agg #[.int .i64 x.r, .int .i64 x.c, .int .i64 x.f, .int .i64 x.s, .int .i64 x.v]) (.agg #[.int .i64 x.r, .int .i64 x.c, .int .i64 x.f, .int .i64 x.s, .int .i64 x.v])).run Try.prog w = .ok (.bool true) w := by
  have u_int := Try.underlying3; have a_int := Try.isAgg3; have z_int := Try.sizeOf3
  have hS : Try.prog.underlying 24 = some (.struct (Try.prog.fieldsOf 24)) := by kernel_rfl
  have hp : Try.prog.stoodInHeld 24 = false := by kernel_rfl
  rw [run_eql_struct, show (10000 : Nat) = 9999 + 1 from rfl, run_equalIn_agg w 9999 24 _ _ hS hp]
  simp only [Program.fieldsOf, Try.underlying24]
  clear hS hp
  go_simp
theorem own_row {H : Type} {enc : TypeId × Value → H} {base : Nat} {W : World} {v : Value} {d : DataW H} {p : List MemPlace} (o : Value.okWide Try.prog W .any base 22 v) (r : DataW.Trod enc Try.prog W 0 (fun _ => true) true 22 v d p) :
    ∃ A l c, v = .slice A (List.length l) c ∧ CRow W A l := by
  obtain ⟨A0, n0, c0, rfl⟩ := okWide_slice Try.underlying22 o
  obtain ⟨fuel, hf⟩ := r
  obtain ⟨A, l, c, hv, hR, _⟩ := CRow.of (show DataW.trod enc Try.prog W 0 (fun _ => true) true fuel 22 [.slice A0 n0 c0] = some (d, p) by simpa [Value.cells] using hf)
  exact ⟨A, l, c, hv, hR⟩
set_option maxRecDepth 100000 in
set_option maxHeartbeats 4000000 in
theorem walk {H : Type} {enc : TypeId × Value → H} {base : Nat} (W : World) (v0 : Value) (d0 : DataW H) (p0 : List MemPlace) (o0 : Value.okWide Try.prog W .any base 22 v0) (r0 : DataW.Trod enc Try.prog W 0 (fun _ => true) true 22 v0 d0 p0) (v1 : Value) (d1 : DataW H) (p1 : List MemPlace) (o1 : Value.okWide Try.prog W .any base 22 v1) (r1 : DataW.Trod enc Try.prog W 0 (fun _ => true) true 22 v1 d1 p1) (rank : Int) (w2 : (Lit.int .i64 rank).wf = true) (call : Int) (w3 : (Lit.int .i64 call).wf = true) :
    Calls Try.prog 3 #[v0, v1, .int .i64 rank, .int .i64 call] W fun e w' => e = .returned (.bool true) ∧ Below W.heap.size W w' := by
  obtain ⟨A, a, ca, rfl, ha⟩ := own_row o0 r0
  obtain ⟨B, b, cb, rfl, hb⟩ := own_row o1 r1
  clear o0 r0 o1 r1 w2 w3
  by_cases hla : a.length ≤ 200
  rotate_left
  · have gI : (200 : Int) < (a.length : Int) := by omega
    clear ha hb
    go_enter Try.func3, Try.ntmps3
    go_wp2_with fail
    go_ret
    exact ⟨rfl, Below.refl _ _⟩
  have gA : ¬ (200 : Int) < (a.length : Int) := by omega
  by_cases hlb : b.length ≤ 200
  rotate_left
  · have gI : (200 : Int) < (b.length : Int) := by omega
    clear ha hb
    go_enter Try.func3, Try.ntmps3
    go_wp2_with fail
    go_ret
    exact ⟨rfl, Below.refl _ _⟩
  have gB : ¬ (200 : Int) < (b.length : Int) := by omega
  have la : a.length ≤ 1000 := by omega
  have lb : b.length ≤ 1000 := by omega
  have AA := hide fun (w' : World) (h : Below W.heap.size W w') => At_a A ca a rank call w' (ha.below h) la
  have AB := hide fun (w' : World) (h : Below W.heap.size W w') => At_b A ca a rank call w' (ha.below h) la
  have M1 := hide fun (w' : World) (h : Below W.heap.size W w') => May_a A ca a w' (ha.below h) la
  have M2 := hide fun (w' : World) (h : Below W.heap.size W w') => May_b A ca a w' (ha.below h) la
  have G1 := hide fun (w' : World) (h : Below W.heap.size W w') => Agree_a A B ca cb a b w' (ha.below h) (hb.below h) la lb
  have G2 := hide fun (w' : World) (h : Below W.heap.size W w') => Agree_b A B ca cb a b w' (ha.below h) (hb.below h) la lb
  have I1 := hide fun (w' : World) (h : Below W.heap.size W w') => Within_a A B ca cb a b w' (ha.below h) (hb.below h) la lb
  have I2 := hide fun (w' : World) (h : Below W.heap.size W w') => Within_b A B ca cb a b w' (ha.below h) (hb.below h) la lb
  have K1 := hide fun (w' : World) (h : Below W.heap.size W w') => Ahead_a A B ca cb a b w' (ha.below h) (hb.below h) la lb
  have K2 := hide fun (w' : World) (h : Below W.heap.size W w') => Ahead_b A B ca cb a b w' (ha.below h) (hb.below h) la lb
  clear ha hb la lb hla hlb
  rw [← agL_agQ] at G2
  rw [← wiL_wiQ] at I2
  generalize mayL a = m at *
  generalize agL a b = g at *
  generalize wiL a b = h at *
  generalize ahQ a b = k at *
  generalize atR a rank call = y at *
  obtain ⟨y, fd⟩ := y
  have Q := eqCh y
  obtain ⟨yr, yc, yf, ys, yv⟩ := y
  unfold Ch.val at AA AB
  simp only at AA AB Q
  have hq : Try.prog.eqGuardType Try.prog.depth 24 = false := by kernel_rfl
  have em : (m == m) = true := by simp
  have eg : (g == g) = true := by simp
  have eh : (h == h) = true := by simp
  have ek : (k == k) = true := by simp
  have ef : (fd == fd) = true := by simp
  go_enter Try.func3, Try.ntmps3
  go_wp2_with fail
  refine (AA.out W (Below.refl _ _)).mono ?_
  rintro e w1 ⟨rfl, hb1⟩
  go_wp2_with fail
  have hb2 := hb1.alloc hb1.size (.cells #[.int .i64 yr, .int .i64 yc, .int .i64 yf, .int .i64 ys, .int .i64 yv] 24)
  have bk1 := Blk.new w1 24 #[.int .i64 yr, .int .i64 yc, .int .i64 yf, .int .i64 ys, .int .i64 yv]
  have hs1 : w1.heap.size < (w1.alloc (.cells #[.int .i64 yr, .int .i64 yc, .int .i64 yf, .int .i64 ys, .int .i64 yv] 24)).heap.size := by simp
  generalize w1.alloc (.cells #[.int .i64 yr, .int .i64 yc, .int .i64 yf, .int .i64 ys, .int .i64 yv] 24) = w2 at *
  have Hw2 := hide hb2
  have BK1 := hide bk1
  clear hb1 hb2 bk1
  refine (AB.out w2 Hw2.out).mono ?_
  rintro e w3 ⟨rfl, hb3⟩
  have Hw3 := hide (Hw2.out.trans (hb3.mono Hw2.out.size))
  have BK3 := hide (BK1.out.below hb3 hs1)
  clear hb3
  go_wp2_with fail
  have hb4 := Hw3.out.alloc Hw3.out.size (.cells #[.int .i64 yr, .int .i64 yc, .int .i64 yf, .int .i64 ys, .int .i64 yv] 24)
  have bk4 := BK3.out.alloc (.cells #[.int .i64 yr, .int .i64 yc, .int .i64 yf, .int .i64 ys, .int .i64 yv] 24)
  have bk5 := Blk.new w3 24 #[.int .i64 yr, .int .i64 yc, .int .i64 yf, .int .i64 ys, .int .i64 yv]
  generalize w3.alloc (.cells #[.int .i64 yr, .int .i64 yc, .int .i64 yf, .int .i64 ys, .int .i64 yv] 24) = w4 at *
  have Hw4 := hide hb4
  have BK4 := hide bk4
  have BK5 := hide bk5
  clear hb4 bk4 bk5
  refine (M1.out w4 Hw4.out).mono ?_
  rintro e w5 ⟨rfl, hb5⟩
  have Hw5 := hide (Hw4.out.trans (hb5.mono Hw4.out.size))
  have BK6 := hide (BK4.out.below hb5 BK4.out.lt)
  have BK7 := hide (BK5.out.below hb5 BK5.out.lt)
  clear hb5
  go_wp2_with fail
  refine (M2.out w5 Hw5.out).mono ?_
  rintro e w6 ⟨rfl, hb6⟩
  have Hw6 := hide (Hw5.out.trans (hb6.mono Hw5.out.size))
  have bk6 := BK6.out.below hb6 BK6.out.lt
  have bk7 := BK7.out.below hb6 BK7.out.lt
  clear hb6
  have c0 := bk6.cell 0
  have c1 := bk6.cell 1
  have c2 := bk6.cell 2
  have c3 := bk6.cell 3
  have c4 := bk6.cell 4
  have d0 := bk7.cell 0
  have d1 := bk7.cell 1
  have d2 := bk7.cell 2
  have d3 := bk7.cell 3
  have d4 := bk7.cell 4
  simp only [List.getElem?_toArray, List.getElem?_cons_zero, List.getElem?_cons_succ] at c0 c1 c2 c3 c4 d0 d1 d2 d3 d4
  clear bk6 bk7
  go_wp2_with fail
  refine (G1.out w6 Hw6.out).mono ?_
  rintro e w7 ⟨rfl, hb7⟩
  have Hw7 := hide (Hw6.out.trans (hb7.mono Hw6.out.size))
  clear hb7 c0 c1 c2 c3 c4 d0 d1 d2 d3 d4
  go_wp2_with fail
  refine (G2.out w7 Hw7.out).mono ?_
  rintro e w8 ⟨rfl, hb8⟩
  have Hw8 := hide (Hw7.out.trans (hb8.mono Hw7.out.size))
  clear hb8
  go_wp2_with fail
  refine (I1.out w8 Hw8.out).mono ?_
  rintro e w9 ⟨rfl, hb9⟩
  have Hw9 := hide (Hw8.out.trans (hb9.mono Hw8.out.size))
  clear hb9
  go_wp2_with fail
  refine (I2.out w9 Hw9.out).mono ?_
  rintro e w10 ⟨rfl, hb10⟩
  have Hw10 := hide (Hw9.out.trans (hb10.mono Hw9.out.size))
  clear hb10
  go_wp2_with fail
  refine (K1.out w10 Hw10.out).mono ?_
  rintro e w11 ⟨rfl, hb11⟩
  have Hw11 := hide (Hw10.out.trans (hb11.mono Hw10.out.size))
  clear hb11
  go_wp2_with fail
  refine (K2.out w11 Hw11.out).mono ?_
  rintro e w12 ⟨rfl, hb12⟩
  have Hw12 := hide (Hw11.out.trans (hb12.mono Hw11.out.size))
  clear hb12
  go_wp2_with fail
  go_ret
  exact ⟨rfl, Hw12.out⟩
end Go.Proofs.Ytfanfcihafhnbaa.SignTellsW
