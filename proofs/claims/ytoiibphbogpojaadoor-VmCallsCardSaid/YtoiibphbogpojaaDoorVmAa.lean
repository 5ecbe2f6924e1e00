/- A step that ends at a call. -/
import Derived.Test.YtoiibphbogpojaaDoorRows
import Derived.Test.YtoiibphbogpojaaDoorVmZ
import Derived.Test.YtoiibphbogpojaaDoorRelT
import Derived.Test.YtoiibphbogpojaaDoorVmE
namespace Go.Proofs.YtoiibphbogpojaaDoor
open Go Go.RowKit Go.Lib Go.Proofs.YtoiibphbogpojaaDoor.Cod
set_option linter.unusedVariables false
set_option linter.unusedSimpArgs false
namespace Vm
/-- A rank that has a call. -/
def Rk.withCl (R : Rk) (C : Cl) (ra : Option Addr) (rc : Nat) : Rk := { R with c0 := .int .u8 C.k, c1 := .int .i64 C.co, c2 := .int .i64 C.pe, c3 := .int .i64 C.tg, c4 := .int .i64 C.va, c5 := .int .i64 C.sz, c6 := .int .i64 C.ro, c7 := .int .u8 C.op, c8 := .slice ra C.rq.length rc, c9 := .int .i64 C.cl, c10 := .int .i64 C.ky }
section
variable {W w0 w : World} {B r : Nat} {R : Rk} {A : Option Addr} {c : Nat} {xs : List Int}
theorem RqAt.far {w : World} {B : Nat} {ra : Option Addr} {rc : Nat} {rq : List Int} (h : RqAt w B ra rc rq) {p : Addr} (hp : p.block < B) (u : Value) : RqAt (w.setCell p u) B ra rc rq := by
  rcases h with h | ⟨g, cur, h0, h1, h2, h3, h4⟩
  · exact .inl h
  · exact .inr ⟨g, cur, h0, h1, h2, h3.far (p := p) (by omega) u, h4⟩
theorem RqAt.mono {w : World} {B B' : Nat} {ra : Option Addr} {rc : Nat} {rq : List Int} (h : RqAt w B ra rc rq) (hB : B' ≤ B) : RqAt w B' ra rc rq := by
  rcases h with h | ⟨g, cur, h0, h1, h2, h3, h4⟩
  · exact .inl h
  · exact .inr ⟨g, cur, h0, h1, Nat.le_trans hB h2, h3, h4⟩
/-- The stack is cut. -/
theorem RSt.cut (s : RSt W w0 w B r R A c xs) : RSt W w0 (w.setCell ⟨r, 10, none⟩ (.slice A 0 c)) B r { R with sk := .slice A 0 c } A c [] := by
  have oc := own_cut s.own (Nat.zero_le xs.length)
  exact ⟨s.bk.set_ 10 _, rfl, own_set_far (p := ⟨r, 10, none⟩) (by simpa [i64s] using oc) s.rb _, fun j h1 h2 => (Below.heap_setCell w ⟨r, 10, none⟩ _ j h2).trans (s.kp j h1 h2), by simpa [World.setCell] using s.le, s.rb, s.wr, s.bl.setCell (p := ⟨r, 10, none⟩) s.wr _⟩
/-- What a step leaves that ends at a call. -/
def CallPost (W w0 : World) (B r : Nat) (R : Rk) (C : Cl) (A : Option Addr) (c : Nat) (w' : World) : Prop := ∃ ra rc, RSt W w0 w' B r { (R.withCl C ra rc) with sk := .slice A 0 c, is_ := .int .u8 1 } A c [] ∧ RqAt w' B ra rc C.rq
set_option maxRecDepth 100000 in
set_option maxHeartbeats 8000000 in
theorem leave_call (n k op : Int) (s : RSt W w0 w B r R A c xs) (h0 : 0 < xs.length) (h8 : xs.length ≤ 8) (hn : n = k + 32 * xs.length + 1024 * op) (hk0 : 0 ≤ k) (hk1 : k ≤ 31) (ho0 : 0 ≤ op) (ho2 : op ≤ 2) (hM : CMay k xs.length) :
    Calls Tryd.prog 41 #[.pointer (some ⟨r, 0, none⟩), .agg #[.int .u8 28, .int .i64 n]] w fun e w' => e = .returned (.tuple #[]) ∧ CallPost W w0 B r R (clOf k op xs) A c w' := by
  have hb : Below w.heap.size w (w.alloc (.cells #[.int .u8 28, .int .i64 n] 23)) := (Below.refl _ _).alloc (Nat.le_refl _) _
  obtain ⟨g, hA, hBg, _, _, _, hnc, _⟩ := own_cell s.own h0
  have CALL := hide (fun (w1 : World) (s1 : RSt W w0 w1 B r R A c xs) => call_c k op xs hM ⟨g, 0, none⟩ c w1 (by
    obtain ⟨g', hA', _, _, ⟨cs, hbk⟩, _, _, hce⟩ := own_cell s1.own h0
    have e : g' = g := by rw [hA] at hA'; injection hA' with h; injection h with h; exact h.symm
    subst e
    refine ⟨hbk.lt, fun j hj => ?_⟩
    rw [add_lit]
    exact hce j _ (by unfold i64s; rw [List.getElem?_map, List.getD, List.getElem?_eq_getElem hj]; rfl)))
  have s1 := s.below hb
  have S1 := hide (s1.below (Below.refl _ _).drew)
  obtain ⟨m, hm⟩ : ∃ m, xs.length = m := ⟨_, rfl⟩
  have y10 : w.cell? ⟨r, 10, none⟩ = some (.slice (some ⟨g, 0, none⟩) m c) := by rw [s.bk.cell 10, ← hm, ← hA, ← s.sk]; rfl
  have hrl := s.bk.lt
  have r1 : Int.tmod n 1024 = k + 32 * m := by rw [Int.tmod_eq_emod_of_nonneg (by omega)]; omega
  have r2 : Int.tdiv (k + 32 * m) 32 = m := by rw [Int.tdiv_eq_ediv_of_nonneg (by omega)]; omega
  have r3 : Int.tmod n 32 = k := by rw [Int.tmod_eq_emod_of_nonneg (by omega)]; omega
  have r4 : Int.tdiv n 1024 = op := by rw [Int.tdiv_eq_ediv_of_nonneg (by omega)]; omega
  have r5 : IntKind.i64.wrap (m : Int) = m := by rw [IntKind.wrap_i64]; omega
  have r6 : IntKind.i64.wrap op = op := by rw [IntKind.wrap_i64]; omega
  have r7 : IntKind.u8.wrap k = k := by rw [IntKind.wrap_u8]; omega
  have r8 : IntKind.u8.wrap op = op := by rw [IntKind.wrap_u8]; omega
  have hmc : (m : Int) ≤ (c : Int) := by omega
  have hm0 : (0 : Int) ≤ (m : Int) := by omega
  have HMM := hide hm
  rw [hm] at CALL
  obtain ⟨C, hC⟩ : ∃ C, clOf k op xs = C := ⟨_, rfl⟩
  unfold ClPost at CALL
  rw [hC] at CALL ⊢
  clear hC
  have HA := hide hA
  clear s s1 hb hn hk0 hk1 ho0 ho2 hM h0 h8 hnc hBg hm hA
  go_enter Tryd.func41, Tryd.ntmps41
  go_wp2_with fail
  go_region
  go_wp2_with fail
  obtain ⟨bx, hbx⟩ : ∃ y, w.heap.size = y := ⟨_, rfl⟩
  obtain ⟨w2, hw2⟩ : ∃ y, (w.alloc (.cells #[.int .u8 28, .int .i64 n] 23)).drew = y := ⟨_, rfl⟩
  have k1 := Blk.new w 23 #[.int .u8 28, .int .i64 n]
  have k2 := k1.below ((Below.refl _ _).drew) k1.lt
  clear k1
  rw [hbx, hw2] at k2
  rw [hw2] at S1
  have BX2 := hide k2
  have S2 := S1
  rw [hbx]
  try rw [hw2]
  have HRB : bx ≠ r := by omega
  clear hbx hw2 k2 hrl S1 y10
  let R7 : Nat → Value → World → Prop := fun sl u w1 => match sl with
    | 27 => u = .pointer (some ⟨r, 0, none⟩)
    | 28 => u = .pointer (some ⟨bx, 1, none⟩)
    | 29 => u = .int .i64 n
    | 30 => u = .int .i64 k
    | 31 => u = .int .u8 k
    | 32 => u = .pointer (some ⟨bx, 1, none⟩)
    | 33 => u = .int .i64 n
    | 34 => u = .int .i64 op
    | 35 => u = .int .u8 op
    | 36 => u = .pointer (some ⟨r, 0, none⟩)
    | 37 => u = .pointer (some ⟨r, 0, none⟩)
    | 38 => u = .pointer (some ⟨r, 10, none⟩)
    | 39 => u = .slice (some ⟨g, 0, none⟩) m c
    | 40 => u = .int .i64 0
    | 41 => u = .slice (some ⟨g, 0, none⟩) m c
    | 42 => ∃ ra rc, u = .agg (C.A ra rc) ∧ RqAt w1 B ra rc C.rq
    | _ => True
  refine wp_region_relT 16 R7 (by kernel_rfl) (by kernel_rfl) (by kernel_rfl) (by kernel_rfl) ?mono ?step ?fin
  case mono =>
    intro sl u wx wy h hb
    match sl with
    | 42 =>
      obtain ⟨ra, rc, h1, h2⟩ := h
      exact ⟨ra, rc, h1, h2.below hb⟩
    | 0 | 1 | 2 | 3 | 4 | 5 | 6 | 7 | 8 | 9 | 10 | 11 | 12 | 13 | 14 | 15 | 16 | 17 | 18 | 19 | 20 | 21 | 22 | 23 | 24 | 25 | 26 | 27 | 28 | 29 | 30 | 31 | 32 | 33 | 34 | 35 | 36 | 37 | 38 | 39 | 40 | 41 | _ + 43 => exact h
  case step =>
    intro o ho
    simp only [List.take, List.mem_cons, List.not_mem_nil, or_false] at ho
    rcases ho with rfl | rfl | rfl | rfl | rfl | rfl | rfl | rfl | rfl | rfl | rfl | rfl | rfl | rfl | rfl | rfl
    · intro a w1 hb hs hr
      have e0 : a.tmps.getD 0 undef = .pointer (some ⟨r, 0, none⟩) := hs 0 (by decide)
      rw [Array.getD_eq_getD_getElem?] at e0
      unfold Oper.wp
      simp only [execOp, Act.eval, Array.getD_eq_getD_getElem?, e0]
      go_simp
      exact ⟨_, rfl, rfl, Below.refl _ _⟩
    · intro a w1 hb hs hr
      have e3 : a.tmps.getD 3 undef = .pointer (some ⟨bx, 0, none⟩) := hs 3 (by decide)
      rw [Array.getD_eq_getD_getElem?] at e3
      unfold Oper.wp
      simp only [execOp, Act.eval, Array.getD_eq_getD_getElem?, e3]
      go_simp
      exact ⟨_, rfl, rfl, Below.refl _ _⟩
    · intro a w1 hb hs hr
      have e28 : a.tmps.getD 28 undef = .pointer (some ⟨bx, 1, none⟩) := hr 28 (by decide) (by apply Array.mem_toList_iff.1; repeat (first | exact List.Mem.head _ | apply List.Mem.tail))
      have cc1 : w1.cell? ⟨bx, 1, none⟩ = some (.int .i64 n) := (BX2.out.below hb BX2.out.lt).cell 1
      rw [Array.getD_eq_getD_getElem?] at e28
      unfold Oper.wp
      simp only [execOp, Act.eval, Array.getD_eq_getD_getElem?, e28]
      go_simp
      exact ⟨_, rfl, rfl, Below.refl _ _⟩
    · intro a w1 hb hs hr
      have e29 : a.tmps.getD 29 undef = .int .i64 n := hr 29 (by decide) (by apply Array.mem_toList_iff.1; repeat (first | exact List.Mem.head _ | apply List.Mem.tail))
      rw [Array.getD_eq_getD_getElem?] at e29
      unfold Oper.wp
      simp only [execOp, Act.eval, Array.getD_eq_getD_getElem?, e29]
      go_simp
      exact ⟨_, rfl, rfl, Below.refl _ _⟩
    · intro a w1 hb hs hr
      have e30 : a.tmps.getD 30 undef = .int .i64 k := hr 30 (by decide) (by apply Array.mem_toList_iff.1; repeat (first | exact List.Mem.head _ | apply List.Mem.tail))
      rw [Array.getD_eq_getD_getElem?] at e30
      unfold Oper.wp
      simp only [execOp, Act.eval, Array.getD_eq_getD_getElem?, e30]
      go_simp
      exact ⟨_, rfl, rfl, Below.refl _ _⟩
    · intro a w1 hb hs hr
      have e3 : a.tmps.getD 3 undef = .pointer (some ⟨bx, 0, none⟩) := hs 3 (by decide)
      rw [Array.getD_eq_getD_getElem?] at e3
      unfold Oper.wp
      simp only [execOp, Act.eval, Array.getD_eq_getD_getElem?, e3]
      go_simp
      exact ⟨_, rfl, rfl, Below.refl _ _⟩
    · intro a w1 hb hs hr
      have e32 : a.tmps.getD 32 undef = .pointer (some ⟨bx, 1, none⟩) := hr 32 (by decide) (by apply Array.mem_toList_iff.1; repeat (first | exact List.Mem.head _ | apply List.Mem.tail))
      have cc1 : w1.cell? ⟨bx, 1, none⟩ = some (.int .i64 n) := (BX2.out.below hb BX2.out.lt).cell 1
      rw [Array.getD_eq_getD_getElem?] at e32
      unfold Oper.wp
      simp only [execOp, Act.eval, Array.getD_eq_getD_getElem?, e32]
      go_simp
      exact ⟨_, rfl, rfl, Below.refl _ _⟩
    · intro a w1 hb hs hr
      have e33 : a.tmps.getD 33 undef = .int .i64 n := hr 33 (by decide) (by apply Array.mem_toList_iff.1; repeat (first | exact List.Mem.head _ | apply List.Mem.tail))
      rw [Array.getD_eq_getD_getElem?] at e33
      unfold Oper.wp
      simp only [execOp, Act.eval, Array.getD_eq_getD_getElem?, e33]
      go_simp
      exact ⟨_, rfl, rfl, Below.refl _ _⟩
    · intro a w1 hb hs hr
      have e34 : a.tmps.getD 34 undef = .int .i64 op := hr 34 (by decide) (by apply Array.mem_toList_iff.1; repeat (first | exact List.Mem.head _ | apply List.Mem.tail))
      rw [Array.getD_eq_getD_getElem?] at e34
      unfold Oper.wp
      simp only [execOp, Act.eval, Array.getD_eq_getD_getElem?, e34]
      go_simp
      exact ⟨_, rfl, rfl, Below.refl _ _⟩
    · intro a w1 hb hs hr
      have e0 : a.tmps.getD 0 undef = .pointer (some ⟨r, 0, none⟩) := hs 0 (by decide)
      rw [Array.getD_eq_getD_getElem?] at e0
      unfold Oper.wp
      simp only [execOp, Act.eval, Array.getD_eq_getD_getElem?, e0]
      go_simp
      exact ⟨_, rfl, rfl, Below.refl _ _⟩
    · intro a w1 hb hs hr
      have e36 : a.tmps.getD 36 undef = .pointer (some ⟨r, 0, none⟩) := hr 36 (by decide) (by apply Array.mem_toList_iff.1; repeat (first | exact List.Mem.head _ | apply List.Mem.tail))
      rw [Array.getD_eq_getD_getElem?] at e36
      unfold Oper.wp
      simp only [execOp, Act.eval, Array.getD_eq_getD_getElem?, e36]
      go_simp
      exact ⟨_, rfl, rfl, Below.refl _ _⟩
    · intro a w1 hb hs hr
      have e37 : a.tmps.getD 37 undef = .pointer (some ⟨r, 0, none⟩) := hr 37 (by decide) (by apply Array.mem_toList_iff.1; repeat (first | exact List.Mem.head _ | apply List.Mem.tail))
      rw [Array.getD_eq_getD_getElem?] at e37
      unfold Oper.wp
      simp only [execOp, Act.eval, Array.getD_eq_getD_getElem?, e37]
      go_simp
      exact ⟨_, rfl, rfl, Below.refl _ _⟩
    · intro a w1 hb hs hr
      have e38 : a.tmps.getD 38 undef = .pointer (some ⟨r, 10, none⟩) := hr 38 (by decide) (by apply Array.mem_toList_iff.1; repeat (first | exact List.Mem.head _ | apply List.Mem.tail))
      have cc1 : w1.cell? ⟨r, 10, none⟩ = some (.slice (some ⟨g, 0, none⟩) m c) := by have s1 := S2.out.below hb; rw [s1.bk.cell 10, ← HMM.out, ← HA.out, ← s1.sk]; rfl
      rw [Array.getD_eq_getD_getElem?] at e38
      unfold Oper.wp
      simp only [execOp, Act.eval, Array.getD_eq_getD_getElem?, e38]
      go_simp
      exact ⟨_, rfl, rfl, Below.refl _ _⟩
    · intro a w1 hb hs hr
      have e4 : a.tmps.getD 4 undef = .int .i64 0 := hs 4 (by decide)
      rw [Array.getD_eq_getD_getElem?] at e4
      unfold Oper.wp
      simp only [execOp, Act.eval, Array.getD_eq_getD_getElem?, e4]
      go_simp
      exact ⟨_, rfl, rfl, Below.refl _ _⟩
    · intro a w1 hb hs hr
      have e39 : a.tmps.getD 39 undef = .slice (some ⟨g, 0, none⟩) m c := hr 39 (by decide) (by apply Array.mem_toList_iff.1; repeat (first | exact List.Mem.head _ | apply List.Mem.tail))
      have e40 : a.tmps.getD 40 undef = .int .i64 0 := hr 40 (by decide) (by apply Array.mem_toList_iff.1; repeat (first | exact List.Mem.head _ | apply List.Mem.tail))
      rw [Array.getD_eq_getD_getElem?] at e39
      rw [Array.getD_eq_getD_getElem?] at e40
      unfold Oper.wp
      simp only [execOp, Act.eval, Array.getD_eq_getD_getElem?, e39, e40]
      go_simp
      exact ⟨_, rfl, rfl, Below.refl _ _⟩
    · intro a w1 hb hs hr
      have e31 : a.tmps.getD 31 undef = .int .u8 k := hr 31 (by decide) (by apply Array.mem_toList_iff.1; repeat (first | exact List.Mem.head _ | apply List.Mem.tail))
      have e35 : a.tmps.getD 35 undef = .int .u8 op := hr 35 (by decide) (by apply Array.mem_toList_iff.1; repeat (first | exact List.Mem.head _ | apply List.Mem.tail))
      have e41 : a.tmps.getD 41 undef = .slice (some ⟨g, 0, none⟩) m c := hr 41 (by decide) (by apply Array.mem_toList_iff.1; repeat (first | exact List.Mem.head _ | apply List.Mem.tail))
      rw [Array.getD_eq_getD_getElem?] at e31
      rw [Array.getD_eq_getD_getElem?] at e35
      rw [Array.getD_eq_getD_getElem?] at e41
      unfold Oper.wp
      simp only [execOp, Act.eval, Array.getD_eq_getD_getElem?, e31, e35, e41]
      go_simp
      refine (CALL.out w1 (S2.out.below hb)).mono ?_
      rintro e w10 ⟨ra, rc, rfl, hq, hb10⟩
      exact ⟨_, rfl, ⟨ra, rc, rfl, hq.mono (S2.out.below hb).le⟩, hb10⟩
  case fin =>
    intro ff w9 hb hr
    have e27 : ff 27 = .pointer (some ⟨r, 0, none⟩) := hr 27 (by decide)
    obtain ⟨ra, rc, e42, HQ⟩ := hr 42 (by decide)
    have S10 := S2.out.below hb
    have HRX : r < B := S10.rb
    unfold Cl.A clA at e42
    clear hb hr CALL S2 BX2
    simp only [putAll, slotsOf, List.take, List.drop, List.filterMap_cons, List.filterMap_nil, List.foldl_cons, List.foldl_nil, Act.put, e27, e42]
    simp only [List.setIfInBounds_toArray, List.set_cons_succ, List.set_cons_zero]
    have f21 : (w9).frozen? ⟨r, 21, none⟩ = false := S10.bk.frozen 21
    have c21 : (w9).cell? ⟨r, 21, none⟩ = some R.c0 := S10.bk.cell 21
    have S21 := S10.set 21 (.int .u8 C.k) (R' := { R with c0 := .int .u8 C.k }) (by rfl) rfl
    have HQ21 := HQ.far (p := ⟨r, 21, none⟩) HRX (.int .u8 C.k)
    have f22 : ((w9.setCell ⟨r, 21, none⟩ (.int .u8 C.k))).frozen? ⟨r, 22, none⟩ = false := S21.bk.frozen 22
    have c22 : ((w9.setCell ⟨r, 21, none⟩ (.int .u8 C.k))).cell? ⟨r, 22, none⟩ = some R.c1 := S21.bk.cell 22
    have S22 := S21.set 22 (.int .i64 C.co) (R' := { R with c0 := .int .u8 C.k, c1 := .int .i64 C.co }) (by rfl) rfl
    have HQ22 := HQ21.far (p := ⟨r, 22, none⟩) HRX (.int .i64 C.co)
    have f23 : (((w9.setCell ⟨r, 21, none⟩ (.int .u8 C.k)).setCell ⟨r, 22, none⟩ (.int .i64 C.co))).frozen? ⟨r, 23, none⟩ = false := S22.bk.frozen 23
    have c23 : (((w9.setCell ⟨r, 21, none⟩ (.int .u8 C.k)).setCell ⟨r, 22, none⟩ (.int .i64 C.co))).cell? ⟨r, 23, none⟩ = some R.c2 := S22.bk.cell 23
    have S23 := S22.set 23 (.int .i64 C.pe) (R' := { R with c0 := .int .u8 C.k, c1 := .int .i64 C.co, c2 := .int .i64 C.pe }) (by rfl) rfl
    have HQ23 := HQ22.far (p := ⟨r, 23, none⟩) HRX (.int .i64 C.pe)
    have f24 : ((((w9.setCell ⟨r, 21, none⟩ (.int .u8 C.k)).setCell ⟨r, 22, none⟩ (.int .i64 C.co)).setCell ⟨r, 23, none⟩ (.int .i64 C.pe))).frozen? ⟨r, 24, none⟩ = false := S23.bk.frozen 24
    have c24 : ((((w9.setCell ⟨r, 21, none⟩ (.int .u8 C.k)).setCell ⟨r, 22, none⟩ (.int .i64 C.co)).setCell ⟨r, 23, none⟩ (.int .i64 C.pe))).cell? ⟨r, 24, none⟩ = some R.c3 := S23.bk.cell 24
    have S24 := S23.set 24 (.int .i64 C.tg) (R' := { R with c0 := .int .u8 C.k, c1 := .int .i64 C.co, c2 := .int .i64 C.pe, c3 := .int .i64 C.tg }) (by rfl) rfl
    have HQ24 := HQ23.far (p := ⟨r, 24, none⟩) HRX (.int .i64 C.tg)
    have f25 : (((((w9.setCell ⟨r, 21, none⟩ (.int .u8 C.k)).setCell ⟨r, 22, none⟩ (.int .i64 C.co)).setCell ⟨r, 23, none⟩ (.int .i64 C.pe)).setCell ⟨r, 24, none⟩ (.int .i64 C.tg))).frozen? ⟨r, 25, none⟩ = false := S24.bk.frozen 25
    have c25 : (((((w9.setCell ⟨r, 21, none⟩ (.int .u8 C.k)).setCell ⟨r, 22, none⟩ (.int .i64 C.co)).setCell ⟨r, 23, none⟩ (.int .i64 C.pe)).setCell ⟨r, 24, none⟩ (.int .i64 C.tg))).cell? ⟨r, 25, none⟩ = some R.c4 := S24.bk.cell 25
    have S25 := S24.set 25 (.int .i64 C.va) (R' := { R with c0 := .int .u8 C.k, c1 := .int .i64 C.co, c2 := .int .i64 C.pe, c3 := .int .i64 C.tg, c4 := .int .i64 C.va }) (by rfl) rfl
    have HQ25 := HQ24.far (p := ⟨r, 25, none⟩) HRX (.int .i64 C.va)
    have f26 : ((((((w9.setCell ⟨r, 21, none⟩ (.int .u8 C.k)).setCell ⟨r, 22, none⟩ (.int .i64 C.co)).setCell ⟨r, 23, none⟩ (.int .i64 C.pe)).setCell ⟨r, 24, none⟩ (.int .i64 C.tg)).setCell ⟨r, 25, none⟩ (.int .i64 C.va))).frozen? ⟨r, 26, none⟩ = false := S25.bk.frozen 26
    have c26 : ((((((w9.setCell ⟨r, 21, none⟩ (.int .u8 C.k)).setCell ⟨r, 22, none⟩ (.int .i64 C.co)).setCell ⟨r, 23, none⟩ (.int .i64 C.pe)).setCell ⟨r, 24, none⟩ (.int .i64 C.tg)).setCell ⟨r, 25, none⟩ (.int .i64 C.va))).cell? ⟨r, 26, none⟩ = some R.c5 := S25.bk.cell 26
    have S26 := S25.set 26 (.int .i64 C.sz) (R' := { R with c0 := .int .u8 C.k, c1 := .int .i64 C.co, c2 := .int .i64 C.pe, c3 := .int .i64 C.tg, c4 := .int .i64 C.va, c5 := .int .i64 C.sz }) (by rfl) rfl
    have HQ26 := HQ25.far (p := ⟨r, 26, none⟩) HRX (.int .i64 C.sz)
    have f27 : (((((((w9.setCell ⟨r, 21, none⟩ (.int .u8 C.k)).setCell ⟨r, 22, none⟩ (.int .i64 C.co)).setCell ⟨r, 23, none⟩ (.int .i64 C.pe)).setCell ⟨r, 24, none⟩ (.int .i64 C.tg)).setCell ⟨r, 25, none⟩ (.int .i64 C.va)).setCell ⟨r, 26, none⟩ (.int .i64 C.sz))).frozen? ⟨r, 27, none⟩ = false := S26.bk.frozen 27
    have c27 : (((((((w9.setCell ⟨r, 21, none⟩ (.int .u8 C.k)).setCell ⟨r, 22, none⟩ (.int .i64 C.co)).setCell ⟨r, 23, none⟩ (.int .i64 C.pe)).setCell ⟨r, 24, none⟩ (.int .i64 C.tg)).setCell ⟨r, 25, none⟩ (.int .i64 C.va)).setCell ⟨r, 26, none⟩ (.int .i64 C.sz))).cell? ⟨r, 27, none⟩ = some R.c6 := S26.bk.cell 27
    have S27 := S26.set 27 (.int .i64 C.ro) (R' := { R with c0 := .int .u8 C.k, c1 := .int .i64 C.co, c2 := .int .i64 C.pe, c3 := .int .i64 C.tg, c4 := .int .i64 C.va, c5 := .int .i64 C.sz, c6 := .int .i64 C.ro }) (by rfl) rfl
    have HQ27 := HQ26.far (p := ⟨r, 27, none⟩) HRX (.int .i64 C.ro)
    have f28 : ((((((((w9.setCell ⟨r, 21, none⟩ (.int .u8 C.k)).setCell ⟨r, 22, none⟩ (.int .i64 C.co)).setCell ⟨r, 23, none⟩ (.int .i64 C.pe)).setCell ⟨r, 24, none⟩ (.int .i64 C.tg)).setCell ⟨r, 25, none⟩ (.int .i64 C.va)).setCell ⟨r, 26, none⟩ (.int .i64 C.sz)).setCell ⟨r, 27, none⟩ (.int .i64 C.ro))).frozen? ⟨r, 28, none⟩ = false := S27.bk.frozen 28
    have c28 : ((((((((w9.setCell ⟨r, 21, none⟩ (.int .u8 C.k)).setCell ⟨r, 22, none⟩ (.int .i64 C.co)).setCell ⟨r, 23, none⟩ (.int .i64 C.pe)).setCell ⟨r, 24, none⟩ (.int .i64 C.tg)).setCell ⟨r, 25, none⟩ (.int .i64 C.va)).setCell ⟨r, 26, none⟩ (.int .i64 C.sz)).setCell ⟨r, 27, none⟩ (.int .i64 C.ro))).cell? ⟨r, 28, none⟩ = some R.c7 := S27.bk.cell 28
    have S28 := S27.set 28 (.int .u8 C.op) (R' := { R with c0 := .int .u8 C.k, c1 := .int .i64 C.co, c2 := .int .i64 C.pe, c3 := .int .i64 C.tg, c4 := .int .i64 C.va, c5 := .int .i64 C.sz, c6 := .int .i64 C.ro, c7 := .int .u8 C.op }) (by rfl) rfl
    have HQ28 := HQ27.far (p := ⟨r, 28, none⟩) HRX (.int .u8 C.op)
    have f29 : (((((((((w9.setCell ⟨r, 21, none⟩ (.int .u8 C.k)).setCell ⟨r, 22, none⟩ (.int .i64 C.co)).setCell ⟨r, 23, none⟩ (.int .i64 C.pe)).setCell ⟨r, 24, none⟩ (.int .i64 C.tg)).setCell ⟨r, 25, none⟩ (.int .i64 C.va)).setCell ⟨r, 26, none⟩ (.int .i64 C.sz)).setCell ⟨r, 27, none⟩ (.int .i64 C.ro)).setCell ⟨r, 28, none⟩ (.int .u8 C.op))).frozen? ⟨r, 29, none⟩ = false := S28.bk.frozen 29
    have c29 : (((((((((w9.setCell ⟨r, 21, none⟩ (.int .u8 C.k)).setCell ⟨r, 22, none⟩ (.int .i64 C.co)).setCell ⟨r, 23, none⟩ (.int .i64 C.pe)).setCell ⟨r, 24, none⟩ (.int .i64 C.tg)).setCell ⟨r, 25, none⟩ (.int .i64 C.va)).setCell ⟨r, 26, none⟩ (.int .i64 C.sz)).setCell ⟨r, 27, none⟩ (.int .i64 C.ro)).setCell ⟨r, 28, none⟩ (.int .u8 C.op))).cell? ⟨r, 29, none⟩ = some R.c8 := S28.bk.cell 29
    have S29 := S28.set 29 (.slice ra C.rq.length rc) (R' := { R with c0 := .int .u8 C.k, c1 := .int .i64 C.co, c2 := .int .i64 C.pe, c3 := .int .i64 C.tg, c4 := .int .i64 C.va, c5 := .int .i64 C.sz, c6 := .int .i64 C.ro, c7 := .int .u8 C.op, c8 := .slice ra C.rq.length rc }) (by rfl) rfl
    have HQ29 := HQ28.far (p := ⟨r, 29, none⟩) HRX (.slice ra C.rq.length rc)
    have f30 : ((((((((((w9.setCell ⟨r, 21, none⟩ (.int .u8 C.k)).setCell ⟨r, 22, none⟩ (.int .i64 C.co)).setCell ⟨r, 23, none⟩ (.int .i64 C.pe)).setCell ⟨r, 24, none⟩ (.int .i64 C.tg)).setCell ⟨r, 25, none⟩ (.int .i64 C.va)).setCell ⟨r, 26, none⟩ (.int .i64 C.sz)).setCell ⟨r, 27, none⟩ (.int .i64 C.ro)).setCell ⟨r, 28, none⟩ (.int .u8 C.op)).setCell ⟨r, 29, none⟩ (.slice ra C.rq.length rc))).frozen? ⟨r, 30, none⟩ = false := S29.bk.frozen 30
    have c30 : ((((((((((w9.setCell ⟨r, 21, none⟩ (.int .u8 C.k)).setCell ⟨r, 22, none⟩ (.int .i64 C.co)).setCell ⟨r, 23, none⟩ (.int .i64 C.pe)).setCell ⟨r, 24, none⟩ (.int .i64 C.tg)).setCell ⟨r, 25, none⟩ (.int .i64 C.va)).setCell ⟨r, 26, none⟩ (.int .i64 C.sz)).setCell ⟨r, 27, none⟩ (.int .i64 C.ro)).setCell ⟨r, 28, none⟩ (.int .u8 C.op)).setCell ⟨r, 29, none⟩ (.slice ra C.rq.length rc))).cell? ⟨r, 30, none⟩ = some R.c9 := S29.bk.cell 30
    have S30 := S29.set 30 (.int .i64 C.cl) (R' := { R with c0 := .int .u8 C.k, c1 := .int .i64 C.co, c2 := .int .i64 C.pe, c3 := .int .i64 C.tg, c4 := .int .i64 C.va, c5 := .int .i64 C.sz, c6 := .int .i64 C.ro, c7 := .int .u8 C.op, c8 := .slice ra C.rq.length rc, c9 := .int .i64 C.cl }) (by rfl) rfl
    have HQ30 := HQ29.far (p := ⟨r, 30, none⟩) HRX (.int .i64 C.cl)
    have f31 : (((((((((((w9.setCell ⟨r, 21, none⟩ (.int .u8 C.k)).setCell ⟨r, 22, none⟩ (.int .i64 C.co)).setCell ⟨r, 23, none⟩ (.int .i64 C.pe)).setCell ⟨r, 24, none⟩ (.int .i64 C.tg)).setCell ⟨r, 25, none⟩ (.int .i64 C.va)).setCell ⟨r, 26, none⟩ (.int .i64 C.sz)).setCell ⟨r, 27, none⟩ (.int .i64 C.ro)).setCell ⟨r, 28, none⟩ (.int .u8 C.op)).setCell ⟨r, 29, none⟩ (.slice ra C.rq.length rc)).setCell ⟨r, 30, none⟩ (.int .i64 C.cl))).frozen? ⟨r, 31, none⟩ = false := S30.bk.frozen 31
    have c31 : (((((((((((w9.setCell ⟨r, 21, none⟩ (.int .u8 C.k)).setCell ⟨r, 22, none⟩ (.int .i64 C.co)).setCell ⟨r, 23, none⟩ (.int .i64 C.pe)).setCell ⟨r, 24, none⟩ (.int .i64 C.tg)).setCell ⟨r, 25, none⟩ (.int .i64 C.va)).setCell ⟨r, 26, none⟩ (.int .i64 C.sz)).setCell ⟨r, 27, none⟩ (.int .i64 C.ro)).setCell ⟨r, 28, none⟩ (.int .u8 C.op)).setCell ⟨r, 29, none⟩ (.slice ra C.rq.length rc)).setCell ⟨r, 30, none⟩ (.int .i64 C.cl))).cell? ⟨r, 31, none⟩ = some R.c10 := S30.bk.cell 31
    have S31 := S30.set 31 (.int .i64 C.ky) (R' := { R with c0 := .int .u8 C.k, c1 := .int .i64 C.co, c2 := .int .i64 C.pe, c3 := .int .i64 C.tg, c4 := .int .i64 C.va, c5 := .int .i64 C.sz, c6 := .int .i64 C.ro, c7 := .int .u8 C.op, c8 := .slice ra C.rq.length rc, c9 := .int .i64 C.cl, c10 := .int .i64 C.ky }) (by rfl) rfl
    have HQ31 := HQ30.far (p := ⟨r, 31, none⟩) HRX (.int .i64 C.ky)
    have y10 : (((((((((((w9.setCell ⟨r, 21, none⟩ (.int .u8 C.k)).setCell ⟨r, 22, none⟩ (.int .i64 C.co)).setCell ⟨r, 23, none⟩ (.int .i64 C.pe)).setCell ⟨r, 24, none⟩ (.int .i64 C.tg)).setCell ⟨r, 25, none⟩ (.int .i64 C.va)).setCell ⟨r, 26, none⟩ (.int .i64 C.sz)).setCell ⟨r, 27, none⟩ (.int .i64 C.ro)).setCell ⟨r, 28, none⟩ (.int .u8 C.op)).setCell ⟨r, 29, none⟩ (.slice ra C.rq.length rc)).setCell ⟨r, 30, none⟩ (.int .i64 C.cl)).setCell ⟨r, 31, none⟩ (.int .i64 C.ky)).cell? ⟨r, 10, none⟩ = some (.slice (some ⟨g, 0, none⟩) m c) := by rw [S31.bk.cell 10, ← HMM.out, ← HA.out, ← S31.sk]; rfl
    have f10 : (((((((((((w9.setCell ⟨r, 21, none⟩ (.int .u8 C.k)).setCell ⟨r, 22, none⟩ (.int .i64 C.co)).setCell ⟨r, 23, none⟩ (.int .i64 C.pe)).setCell ⟨r, 24, none⟩ (.int .i64 C.tg)).setCell ⟨r, 25, none⟩ (.int .i64 C.va)).setCell ⟨r, 26, none⟩ (.int .i64 C.sz)).setCell ⟨r, 27, none⟩ (.int .i64 C.ro)).setCell ⟨r, 28, none⟩ (.int .u8 C.op)).setCell ⟨r, 29, none⟩ (.slice ra C.rq.length rc)).setCell ⟨r, 30, none⟩ (.int .i64 C.cl)).setCell ⟨r, 31, none⟩ (.int .i64 C.ky)).frozen? ⟨r, 10, none⟩ = false := S31.bk.frozen 10
    have S32 := S31.cut
    rw [HA.out] at S32
    have f7 : ((((((((((((w9.setCell ⟨r, 21, none⟩ (.int .u8 C.k)).setCell ⟨r, 22, none⟩ (.int .i64 C.co)).setCell ⟨r, 23, none⟩ (.int .i64 C.pe)).setCell ⟨r, 24, none⟩ (.int .i64 C.tg)).setCell ⟨r, 25, none⟩ (.int .i64 C.va)).setCell ⟨r, 26, none⟩ (.int .i64 C.sz)).setCell ⟨r, 27, none⟩ (.int .i64 C.ro)).setCell ⟨r, 28, none⟩ (.int .u8 C.op)).setCell ⟨r, 29, none⟩ (.slice ra C.rq.length rc)).setCell ⟨r, 30, none⟩ (.int .i64 C.cl)).setCell ⟨r, 31, none⟩ (.int .i64 C.ky)).setCell ⟨r, 10, none⟩ (.slice (some ⟨g, 0, none⟩) 0 c)).frozen? ⟨r, 7, none⟩ = false := S32.bk.frozen 7
    have c7 : ((((((((((((w9.setCell ⟨r, 21, none⟩ (.int .u8 C.k)).setCell ⟨r, 22, none⟩ (.int .i64 C.co)).setCell ⟨r, 23, none⟩ (.int .i64 C.pe)).setCell ⟨r, 24, none⟩ (.int .i64 C.tg)).setCell ⟨r, 25, none⟩ (.int .i64 C.va)).setCell ⟨r, 26, none⟩ (.int .i64 C.sz)).setCell ⟨r, 27, none⟩ (.int .i64 C.ro)).setCell ⟨r, 28, none⟩ (.int .u8 C.op)).setCell ⟨r, 29, none⟩ (.slice ra C.rq.length rc)).setCell ⟨r, 30, none⟩ (.int .i64 C.cl)).setCell ⟨r, 31, none⟩ (.int .i64 C.ky)).setCell ⟨r, 10, none⟩ (.slice (some ⟨g, 0, none⟩) 0 c)).cell? ⟨r, 7, none⟩ = some R.is_ := S32.bk.cell 7
    have S33 := S32.set 7 (.int .u8 1) (R' := { (R.withCl C ra rc) with sk := .slice (some ⟨g, 0, none⟩) 0 c, is_ := .int .u8 1 }) (by rfl) rfl
    have HQ33 := (HQ31.far (p := ⟨r, 10, none⟩) HRX (.slice (some ⟨g, 0, none⟩) 0 c)).far (p := ⟨r, 7, none⟩) HRX (.int .u8 1)
    have FIN := hide (show CallPost W w0 B r R C A c _ from ⟨ra, rc, by rw [HA.out]; exact S33, HQ33⟩)
    clear HQ33 S33 S32 HQ HRX S21 HQ21 S22 HQ22 S23 HQ23 S24 HQ24 S25 HQ25 S26 HQ26 S27 HQ27 S28 HQ28 S29 HQ29 S30 HQ30 S31 HQ31 S10
    go_wp2_with fail
    go_end0
    exact ⟨rfl, FIN.out⟩
set_option maxRecDepth 100000 in
set_option maxHeartbeats 4000000 in
/-- The step of a call. -/
theorem step_call (n k op : Int) (p : Nat) (s : RSt W w0 w B r R A c xs) (x : Nxt w0 B r R p 28 n) (h0 : 0 < xs.length) (h8 : xs.length ≤ 8) (hn : n = k + 32 * xs.length + 1024 * op) (hk0 : 0 ≤ k) (hk1 : k ≤ 31) (ho0 : 0 ≤ op) (ho2 : op ≤ 2) (hM : CMay k xs.length) :
    Calls Tryd.prog 16 #[.pointer (some ⟨r, 0, none⟩)] w fun e w' => e = .returned (.tuple #[]) ∧ CallPost W w0 B r { R with pl := .int .i64 ((p : Int) + 1) } (clOf k op xs) A c w' := by
  obtain ⟨ad, cn, cc, hpI, y0, y9, i0, i1, s1, z0, z1, zr0, zr9, fz, cz0, cz1, xr, fr, cy0, cy1, hrl, st, bx⟩ := pre_of s x
  have LV := hide (leave_call n k op st.out h0 h8 hn hk0 hk1 ho0 ho2 hM)
  clear s x h0 h8 hn hk0 hk1 ho0 ho2 hM
  go_enter Tryd.func16, Tryd.ntmps16
  go_wp2_with fail
  go_region
  go_wp2_with fail
  refine LV.out.mono ?_
  rintro v w' ⟨rfl, h⟩
  have H := hide h
  clear h
  go_wp2_with fail
  go_end0
  exact ⟨rfl, H.out⟩
end
end Vm
end Go.Proofs.YtoiibphbogpojaaDoor
