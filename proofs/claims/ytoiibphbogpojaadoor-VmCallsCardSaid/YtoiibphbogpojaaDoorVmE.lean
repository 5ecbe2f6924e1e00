/- A step that sets a variable, a step that stops. -/
import Derived.Test.YtoiibphbogpojaaDoorRows
import Derived.Test.YtoiibphbogpojaaDoorVmD
namespace Go.Proofs.YtoiibphbogpojaaDoor
open Go Go.RowKit Go.Proofs.YtoiibphbogpojaaDoor.Cod
set_option linter.unusedVariables false
set_option linter.unusedSimpArgs false
namespace Vm
section
variable {W w0 w : World} {B r : Nat} {R : Rk} {A : Option Addr} {c : Nat} {xs : List Int}
/-- A block that is not the rank's is written over. -/
theorem RSt.vset (s : RSt W w0 w B r R A c xs) {vb : Nat} {t : TypeId} {vcs : Array Value} (i : Nat) (u : Value) (hv : Blk w0 vb t vcs) (hvB : vb < B) (hvr : vb ≠ r) (hW : W.heap.size ≤ vb) : RSt W (w0.setCell ⟨vb, i, none⟩ u) (w.setCell ⟨vb, i, none⟩ u) B r R A c xs := by
  have hvw : Blk w vb t vcs := (s.kp vb hvB hvr).trans hv
  refine ⟨s.bk.far (p := ⟨vb, i, none⟩) (fun e => hvr e.symm) u, s.sk, own_set_far (p := ⟨vb, i, none⟩) s.own hvB u, fun j h1 h2 => ?_, by simpa [World.setCell] using s.le, s.rb, s.wr, s.bl.setCell (p := ⟨vb, i, none⟩) hW u⟩
  by_cases h : j = vb
  · subst h
    exact (hvw.set_ i u).trans (hv.set_ i u).symm
  · exact ((Below.heap_setCell w ⟨vb, i, none⟩ u j h).trans (s.kp j h1 h2)).trans (Below.heap_setCell w0 ⟨vb, i, none⟩ u j h).symm
set_option maxRecDepth 100000 in
set_option maxHeartbeats 8000000 in
theorem step_set (i p nv cv vb : Nat) (nb : Int) (vcs : Array Value) (s : RSt W w0 w B r R A c (xs ++ [nb])) (x : Nxt w0 B r R p 3 i) (hl : xs.length ≤ 99999)
    (hvs : R.vs = .slice (some ⟨vb, 0, none⟩) nv cv) (hi : i < nv) (hvB : vb < B) (hvr : vb ≠ r) (hW : W.heap.size ≤ vb) (hv : Blk w0 vb 2 vcs) (hvn : i < vcs.size) :
    Calls Tryd.prog 16 #[.pointer (some ⟨r, 0, none⟩)] w fun e w' => e = .returned (.tuple #[]) ∧ RSt W (w0.setCell ⟨vb, i, none⟩ (.int .i64 nb)) w' B r { R with pl := .int .i64 ((p : Int) + 1), sk := .slice A xs.length c } A c xs := by
  obtain ⟨ad, cn, cc, hpI, y0, y9, i0, i1, s1, z0, z1, zr0, zr9, fz, cz0, cz1, xr, fr, cy0, cy1, hrl, st, bx⟩ := pre_of s x
  have HL := hide (show xs.length ≤ 100000 by omega)
  have HV := hide hv
  have HVB := hide hvB
  have HVR := hide hvr
  have HW := hide hW
  have HVN := hide hvn
  have HI := hide hi
  obtain ⟨R3, hR3⟩ : ∃ y, { R with pl := .int .i64 ((p : Int) + 1) : Rk } = y := ⟨_, rfl⟩
  have hvs3 : R3.vs = .slice (some ⟨vb, 0, none⟩) nv cv := by rw [← hR3]; exact hvs
  have HVS := hide hvs3
  have HR3 := hide hR3
  rw [hR3] at st
  clear s x hvs hvs3 hi hvB hvr hW hv hvn hl hR3
  go_enter Tryd.func16, Tryd.ntmps16
  go_wp2_with fail
  go_region
  go_wp2_with fail
  obtain ⟨bx', hbx'⟩ : ∃ y, w.heap.size = y := ⟨_, rfl⟩
  obtain ⟨w3, hw3⟩ : ∃ y, ((w.setCell ⟨r, 9, none⟩ (.int .i64 ((p : Int) + 1))).alloc (.cells #[.int .u8 3, .int .i64 (i : Int)] 23)).drew = y := ⟨_, rfl⟩
  have S3 := hide st.out
  have BX3 := hide bx.out
  rw [hw3] at S3 BX3
  rw [hbx'] at BX3
  have hbr : bx' ≠ r := by omega
  clear st bx i0 i1 y0 y9 z0 z1 zr0 zr9 fz cz0 cz1 xr fr cy0 cy1
  rw [hbx']
  try rw [hw3]
  clear hrl hbx'
  let K : World → World → Prop := fun a b => Only [r] a b
  let Rv : Nat → Value → World → Prop := fun sl u w1 => match sl with
    | 83 => u = .pointer (some ⟨r, 0, none⟩)
    | 84 => u = .pointer (some ⟨r, 0, none⟩)
    | 85 => u = .pointer (some ⟨r, 11, none⟩)
    | 86 => u = .slice (some ⟨vb, 0, none⟩) nv cv
    | 87 => u = .pointer (some ⟨bx', 1, none⟩)
    | 88 => u = .int .i64 i
    | 89 => u = .pointer (some ⟨r, 0, none⟩)
    | 90 => u = .int .i64 nb
    | _ => True
  let J : Option Value → World → Prop := fun q w1 => match q with
    | none => RSt W w0 w1 B r R3 A c (xs ++ [nb])
    | some u => u = .int .i64 nb ∧ RSt W w0 w1 B r { R3 with sk := .slice A xs.length c } A c xs
  have hKB : ∀ x y, Below x.heap.size x y → K x y := fun _ _ hb => Only.of_below hb
  have hJB : ∀ q x y, J q x → Below x.heap.size x y → J q y := fun q x y hj hb => by
    cases q with
    | none => exact RSt.below hj hb
    | some u => exact ⟨hj.1, RSt.below hj.2 hb⟩
  have HJ11 := hide (fun (q : Option Value) (w1 : World) (hj : J q w1) => show w1.cell? ⟨r, 11, none⟩ = some (.slice (some ⟨vb, 0, none⟩) nv cv) by
    cases q with
    | none =>
      have hj : RSt W w0 w1 B r R3 A c (xs ++ [nb]) := hj
      rw [hj.bk.cell 11, ← HVS.out]; rfl
    | some u =>
      have hj : RSt W w0 w1 B r { R3 with sk := .slice A xs.length c } A c xs := hj.2
      rw [hj.bk.cell 11, ← HVS.out]; rfl)
  have HBX := hide (fun (w1 : World) (hk : K w3.drew w1) => show w1.cell? ⟨bx', 1, none⟩ = some (.int .i64 i) from (show Blk w1 bx' 23 #[.int .u8 3, .int .i64 i] from (hk.2 bx' BX3.out.lt (by simpa using hbr)).trans BX3.out).cell 1)
  refine wp_region_relJ 8 90 Rv K J (by kernel_rfl) (by kernel_rfl) (by kernel_rfl) (by kernel_rfl) (by kernel_rfl) (fun _ _ _ h1 h2 => Only.trans h1 h2) (hKB _ _ (Below.refl _ _).drew) (hJB none _ _ S3.out (Below.refl _ _).drew) (fun sl u wx wy h hk => ?mono) ?step ?fin
  case mono =>
    match sl with
    | 0 | 1 | 2 | 3 | 4 | 5 | 6 | 7 | 8 | 9 | 10 | 11 | 12 | 13 | 14 | 15 | 16 | 17 | 18 | 19 | 20 | 21 | 22 | 23 | 24 | 25 | 26 | 27 | 28 | 29 | 30 | 31 | 32 | 33 | 34 | 35 | 36 | 37 | 38 | 39 | 40 | 41 | 42 | 43 | 44 | 45 | 46 | 47 | 48 | 49 | 50 | 51 | 52 | 53 | 54 | 55 | 56 | 57 | 58 | 59 | 60 | 61 | 62 | 63 | 64 | 65 | 66 | 67 | 68 | 69 | 70 | 71 | 72 | 73 | 74 | 75 | 76 | 77 | 78 | 79 | 80 | 81 | 82 | 83 | 84 | 85 | 86 | 87 | 88 | 89 | 90 | _ + 91 => exact h
  case step =>
    intro op hop
    simp only [List.take, List.mem_cons, List.not_mem_nil, or_false] at hop
    rcases hop with rfl | rfl | rfl | rfl | rfl | rfl | rfl | rfl
    · refine ⟨fun h => absurd h (by decide), fun _ b => stepJ_of hKB hJB fun a w1 hk hj hsm hr => ?_⟩
      have e0 : a.tmps.getD 0 undef = .pointer (some ⟨r, 0, none⟩) := hsm 0 (by decide)
      rw [Array.getD_eq_getD_getElem?] at e0
      unfold Oper.wp
      simp only [execOp, Act.eval, Array.getD_eq_getD_getElem?, e0]
      go_simp
      exact ⟨_, rfl, rfl, Below.refl _ _⟩
    · refine ⟨fun h => absurd h (by decide), fun _ b => stepJ_of hKB hJB fun a w1 hk hj hsm hr => ?_⟩
      have e83 : a.tmps.getD 83 undef = .pointer (some ⟨r, 0, none⟩) := hr 83 (by decide) (by apply Array.mem_toList_iff.1; repeat (first | exact List.Mem.head _ | apply List.Mem.tail))
      rw [Array.getD_eq_getD_getElem?] at e83
      unfold Oper.wp
      simp only [execOp, Act.eval, Array.getD_eq_getD_getElem?, e83]
      go_simp
      exact ⟨_, rfl, rfl, Below.refl _ _⟩
    · refine ⟨fun h => absurd h (by decide), fun _ b => stepJ_of hKB hJB fun a w1 hk hj hsm hr => ?_⟩
      have e84 : a.tmps.getD 84 undef = .pointer (some ⟨r, 0, none⟩) := hr 84 (by decide) (by apply Array.mem_toList_iff.1; repeat (first | exact List.Mem.head _ | apply List.Mem.tail))
      rw [Array.getD_eq_getD_getElem?] at e84
      unfold Oper.wp
      simp only [execOp, Act.eval, Array.getD_eq_getD_getElem?, e84]
      go_simp
      exact ⟨_, rfl, rfl, Below.refl _ _⟩
    · refine ⟨fun h => absurd h (by decide), fun _ b => stepJ_of hKB hJB fun a w1 hk hj hsm hr => ?_⟩
      have e85 : a.tmps.getD 85 undef = .pointer (some ⟨r, 11, none⟩) := hr 85 (by decide) (by apply Array.mem_toList_iff.1; repeat (first | exact List.Mem.head _ | apply List.Mem.tail))
      have cc0 : w1.cell? ⟨r, 11, none⟩ = some (.slice (some ⟨vb, 0, none⟩) nv cv) := HJ11.out _ w1 hj
      rw [Array.getD_eq_getD_getElem?] at e85
      unfold Oper.wp
      simp only [execOp, Act.eval, Array.getD_eq_getD_getElem?, e85]
      go_simp
      exact ⟨_, rfl, rfl, Below.refl _ _⟩
    · refine ⟨fun h => absurd h (by decide), fun _ b => stepJ_of hKB hJB fun a w1 hk hj hsm hr => ?_⟩
      have e2 : a.tmps.getD 2 undef = .pointer (some ⟨bx', 0, none⟩) := hsm 2 (by decide)
      rw [Array.getD_eq_getD_getElem?] at e2
      unfold Oper.wp
      simp only [execOp, Act.eval, Array.getD_eq_getD_getElem?, e2]
      go_simp
      exact ⟨_, rfl, rfl, Below.refl _ _⟩
    · refine ⟨fun h => absurd h (by decide), fun _ b => stepJ_of hKB hJB fun a w1 hk hj hsm hr => ?_⟩
      have e87 : a.tmps.getD 87 undef = .pointer (some ⟨bx', 1, none⟩) := hr 87 (by decide) (by apply Array.mem_toList_iff.1; repeat (first | exact List.Mem.head _ | apply List.Mem.tail))
      have cc0 : w1.cell? ⟨bx', 1, none⟩ = some (.int .i64 i) := HBX.out w1 hk
      rw [Array.getD_eq_getD_getElem?] at e87
      unfold Oper.wp
      simp only [execOp, Act.eval, Array.getD_eq_getD_getElem?, e87]
      go_simp
      exact ⟨_, rfl, rfl, Below.refl _ _⟩
    · refine ⟨fun h => absurd h (by decide), fun _ b => stepJ_of hKB hJB fun a w1 hk hj hsm hr => ?_⟩
      have e0 : a.tmps.getD 0 undef = .pointer (some ⟨r, 0, none⟩) := hsm 0 (by decide)
      rw [Array.getD_eq_getD_getElem?] at e0
      unfold Oper.wp
      simp only [execOp, Act.eval, Array.getD_eq_getD_getElem?, e0]
      go_simp
      exact ⟨_, rfl, rfl, Below.refl _ _⟩
    · refine ⟨fun _ a1 w1 hk hj hsm hr => ?_, fun h => absurd rfl h⟩
      have e89 : a1.tmps.getD 89 undef = .pointer (some ⟨r, 0, none⟩) := hr 89 (by decide) (by apply Array.mem_toList_iff.1; repeat (first | exact List.Mem.head _ | apply List.Mem.tail))
      have hj : RSt W w0 w1 B r R3 A c (xs ++ [nb]) := hj
      rw [Array.getD_eq_getD_getElem?] at e89
      unfold Oper.wp
      simp only [execOp, Act.eval, Array.getD_eq_getD_getElem?, e89]
      go_simp
      refine (pop_c nb hj HL.out).mono ?_
      rintro e w9 ⟨rfl, h9, u9, hw9⟩
      exact ⟨_, rfl, rfl, by rw [hw9]; exact Only.set_ _ _ (by simp), rfl, h9⟩
  case fin =>
    intro ff w9 hk hj hr
    have hj : ff 90 = .int .i64 nb ∧ RSt W w0 w9 B r { R3 with sk := .slice A xs.length c } A c xs := hj
    have e90 := hj.1
    have e86 : ff 86 = .slice (some ⟨vb, 0, none⟩) nv cv := hr 86 (by decide)
    have e88 : ff 88 = .int .i64 i := hr 88 (by decide)
    have S9 := hj.2
    have hvw : Blk w9 vb 2 vcs := (S9.kp vb HVB.out HVR.out).trans HV.out
    have fv := hvw.frozen i
    have cvx : w9.cell? ⟨vb, i, none⟩ = some (vcs[i]'HVN.out) := by rw [hvw.cell i, Array.getElem?_eq_getElem HVN.out]
    have hi1 : (i : Int) < (nv : Int) := by have := HI.out; omega
    have hi2 : ¬ (i : Int) < 0 := by omega
    have FIN := hide (S9.vset i (.int .i64 nb) HV.out HVB.out HVR.out HW.out)
    rw [← HR3.out] at FIN
    clear hj hk hr hKB hJB HJ11 HBX S9 hvw
    simp only [putAll, slotsOf, List.take, List.drop, List.filterMap_cons, List.filterMap_nil, List.foldl_cons, List.foldl_nil, Act.put, e86, e88, e90]
    simp only [List.setIfInBounds_toArray, List.set_cons_succ, List.set_cons_zero]
    go_wp2_with fail
    go_end0
    exact ⟨rfl, FIN.out⟩
set_option maxRecDepth 100000 in
set_option maxHeartbeats 4000000 in
/-- The end of a rank. -/
theorem leave_stop (n : Int) (s : RSt W w0 w B r R A c xs) :
    Calls Tryd.prog 41 #[.pointer (some ⟨r, 0, none⟩), .agg #[.int .u8 29, .int .i64 n]] w fun e w' => e = .returned (.tuple #[]) ∧ RSt W w0 w' B r { R with is_ := .int .u8 3 } A c xs := by
  have hb : Below w.heap.size w (w.alloc (.cells #[.int .u8 29, .int .i64 n] 23)) := (Below.refl _ _).alloc (Nat.le_refl _) _
  have S1 := s.below hb
  have f7 := S1.bk.frozen 7
  have c7 := S1.bk.cell 7
  have e7 : (rkA R)[7]? = some R.is_ := rfl
  rw [e7] at c7
  have k1 := Blk.new w 23 #[.int .u8 29, .int .i64 n]
  have cy0 := k1.cell 0
  have cy1 := k1.cell 1
  have FIN := hide (S1.set 7 (.int .u8 3) (R' := { R with is_ := .int .u8 3 }) (by rfl) rfl)
  have hrl := s.bk.lt
  have f7' := s.bk.frozen 7
  have c7' := s.bk.cell 7
  rw [e7] at c7'
  have FIN2 := hide ((s.set 7 (.int .u8 3) (R' := { R with is_ := .int .u8 3 }) (by rfl) rfl).below ((Below.refl _ _).alloc (Nat.le_refl _) (.cells #[.int .u8 29, .int .i64 n] 23)))
  clear s S1 e7 hb k1
  go_enter Tryd.func41, Tryd.ntmps41
  go_wp2_with fail
  go_end0
  first | exact ⟨rfl, FIN.out⟩ | exact ⟨rfl, FIN2.out⟩
set_option maxRecDepth 100000 in
set_option maxHeartbeats 4000000 in
theorem step_stop (n : Int) (p : Nat) (s : RSt W w0 w B r R A c xs) (x : Nxt w0 B r R p 29 n) :
    Calls Tryd.prog 16 #[.pointer (some ⟨r, 0, none⟩)] w fun e w' => e = .returned (.tuple #[]) ∧ RSt W w0 w' B r { R with pl := .int .i64 ((p : Int) + 1), is_ := .int .u8 3 } A c xs := by
  obtain ⟨ad, cn, cc, hpI, y0, y9, i0, i1, s1, z0, z1, zr0, zr9, fz, cz0, cz1, xr, fr, cy0, cy1, hrl, st, bx⟩ := pre_of s x
  clear s x
  go_enter Tryd.func16, Tryd.ntmps16
  go_wp2_with fail
  go_region
  go_wp2_with fail
  refine (leave_stop n st.out).mono ?_
  rintro v w' ⟨rfl, h⟩
  have H := hide h
  clear h
  go_wp2_with fail
  go_end0
  exact ⟨rfl, H.out⟩
end
end Vm
end Go.Proofs.YtoiibphbogpojaaDoor
