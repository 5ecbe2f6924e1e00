/- A step with two sides. -/
import Derived.Test.YtoiibphbogpojaaDoorRows
import Derived.Test.YtoiibphbogpojaaDoorVmC
import Derived.Test.YtoiibphbogpojaaDoorRelK
import Derived.BigQuiet
namespace Go.Proofs.YtoiibphbogpojaaDoor
open Go Go.RowKit Go.Proofs.YtoiibphbogpojaaDoor.Cod
set_option linter.unusedVariables false
set_option linter.unusedSimpArgs false
namespace Vm
section
variable {W w0 w : World} {B r : Nat} {R : Rk} {A : Option Addr} {c : Nat} {xs : List Int}
def I64 (z : Int) : Prop := -9223372036854775808 ≤ z ∧ z ≤ 9223372036854775807
/-- What a step with two sides comes to. -/
def TwoPost (W w0 : World) (B r : Nat) (R : Rk) (p k : Nat) (a b : Int) (xs : List Int) (w' : World) : Prop :=
  match twoF k a b with
  | some v => ∃ A' c', RSt W w0 w' B r { R with pl := .int .i64 ((p : Int) + 1), sk := .slice A' (xs.length + 1) c' } A' c' (xs ++ [v])
  | none => ∃ A' c', RSt W w0 w' B r { R with pl := .int .i64 ((p : Int) + 1), sk := .slice A' xs.length c', is_ := .int .u8 5, ft := .int .u8 1 } A' c' xs
set_option maxRecDepth 100000 in
set_option maxHeartbeats 2000000 in
theorem endAt_c (f : Int) (s : RSt W w0 w B r R A c xs) :
    Calls Tryd.prog 36 #[.pointer (some ⟨r, 0, none⟩), .int .u8 f] w fun e w' => e = .returned (.tuple #[]) ∧ RSt W w0 w' B r { R with is_ := .int .u8 5, ft := .int .u8 f } A c xs := by
  have f7 := s.bk.frozen 7
  have S1 := s.set 7 (.int .u8 5) (R' := { R with is_ := .int .u8 5 }) (by rfl) rfl
  have f8 := S1.bk.frozen 8
  have FIN := hide (S1.set 8 (.int .u8 f) (R' := { R with is_ := .int .u8 5, ft := .int .u8 f }) (by rfl) rfl)
  have hrl := s.bk.lt
  have c7 := s.bk.cell 7
  have c8 := s.bk.cell 8
  have c8' := S1.bk.cell 8
  have e7 : (rkA R)[7]? = some R.is_ := rfl
  have e8 : (rkA R)[8]? = some R.ft := rfl
  have e8' : (rkA { R with is_ := .int .u8 5 })[8]? = some R.ft := rfl
  rw [e7] at c7
  rw [e8] at c8
  rw [e8'] at c8'
  clear s S1 e7 e8 e8'
  go_enter Tryd.func36, Tryd.ntmps36
  go_wp2_with fail
  go_end0
  exact ⟨rfl, FIN.out⟩
set_option maxRecDepth 100000 in
set_option maxHeartbeats 8000000 in
theorem step_two (k p F : Nat) (o n na nb : Int) (sb : Nat) (hF : sideP k F) (hC : ∀ (args : Array Value) (w : World), Sem.run Tryd.prog (callFunc F args) w = .ok (.enter F args) w) (hk : k < 11) (ho : o = 10 + (k : Int)) (ha : I64 na) (hb : I64 nb) (s : RSt W w0 w B r R A c ((xs ++ [na]) ++ [nb])) (x : Nxt w0 B r R p o n) (hl : xs.length ≤ 99999)
    (hsd : R.sd = .pointer (some ⟨sb, 0, none⟩)) (hsB : sb < B) (hsr : sb ≠ r) (hsc : w0.cell? ⟨sb, k, none⟩ = some (.func (.func (F)) #[] #[])) :
    Calls Tryd.prog 16 #[.pointer (some ⟨r, 0, none⟩)] w fun e w' => e = .returned (.tuple #[]) ∧ TwoPost W w0 B r R p k na nb xs w' := by
  obtain ⟨ad, cn, cc, hpI, y0, y9, i0, i1, s1, z0, z1, zr0, zr9, fz, cz0, cz1, xr, fr, cy0, cy1, hrl, st, bx⟩ := pre_of s x
  have hle := s.le
  have hrB := s.rb
  have HSUB := hide (show IntKind.u8.wrap (o - 10) = (k : Int) by
    have : IntKind.u8.wrap (o - 10) = (o - 10) % 256 := rfl
    rw [this]
    omega)
  have HK11 := hide (show (k : Int) < 11 by omega)
  have HKN := hide hk
  have HA := hide ha
  obtain ⟨tv, htv⟩ : ∃ y, (twoF k na nb).getD 0 = y := ⟨_, rfl⟩
  obtain ⟨tb, htb⟩ : ∃ y, (twoF k na nb).isSome = y := ⟨_, rfl⟩
  have HF2 := hide (fun (w1 : World) => hF na nb w1 ha hb)
  rw [htv, htb] at HF2
  have HTV := hide htv
  have HTB := hide htb
  have HC := hide hC
  have HB := hide hb
  have h10 : 10 ≤ o := by omega
  have h20 : o ≤ 20 := by omega
  have HL := hide (show xs.length ≤ 100000 by omega)
  have hl2 : (xs ++ [na]).length ≤ 100000 := by simp; omega
  have HL2 := hide hl2
  have HSD := hide hsd
  have HSB := hide hsB
  have HSR := hide hsr
  have HSC := hide hsc
  have HLE := hide hle
  have HRB := hide hrB
  clear s x hF hC htv htb hl hl2 ho hk ha hb hsd hsB hsr hsc hle hrB
  go_enter Tryd.func16, Tryd.ntmps16
  go_wp2_with fail
  go_region
  go_wp2_with fail
  refine (pop_c nb st.out HL2.out).mono ?_
  rintro v w3 ⟨rfl, h3, u3, hw3⟩
  have BX3 := hide (show Blk w3 w.heap.size 23 #[.int .u8 o, .int .i64 n] by rw [hw3]; exact bx.out.far (p := ⟨r, 10, none⟩) (by intro e; have e1 : w.heap.size = r := e; omega) u3)
  obtain ⟨R3, hR3⟩ : ∃ y, { R with pl := .int .i64 ((p : Int) + 1), sk := .slice A (xs ++ [na]).length c : Rk } = y := ⟨_, rfl⟩
  have h3' : RSt W w0 w3 B r R3 A c (xs ++ [na]) := by rw [← hR3]; exact h3
  have S3 := hide h3'
  have HSD3 := hide (show R3.sd = .pointer (some ⟨sb, 0, none⟩) by rw [← hR3]; exact HSD.out)
  have HR3 := hide hR3
  obtain ⟨bx', hbx'⟩ : ∃ y, w.heap.size = y := ⟨_, rfl⟩
  have hbr : bx' ≠ r := by omega
  rw [hbx'] at BX3
  clear h3 h3' hR3 hw3 st bx i0 i1 y0 y9 z0 z1 zr0 zr9 fz cz0 cz1 xr fr cy0 cy1
  rw [hbx']
  clear hrl hbx'
  go_wp2_with fail
  let K : World → World → Prop := fun a b => Only [r] a b
  let Rv : Nat → Value → World → Prop := fun sl u w1 => match sl with
    | 35 => u = .pointer (some ⟨r, 0, none⟩)
    | 36 => u = .pointer (some ⟨r, 0, none⟩)
    | 37 => u = .pointer (some ⟨r, 4, none⟩)
    | 38 => u = .pointer (some ⟨sb, 0, none⟩)
    | 39 => u = .pointer (some ⟨bx', 0, none⟩)
    | 40 => u = .int .u8 o
    | 41 => u = .int .u8 k
    | 42 => u = .pointer (some ⟨sb, 0, none⟩)
    | 43 => u = .pointer (some ⟨sb, k, none⟩)
    | 44 => u = .func (.func (F)) #[] #[]
    | 45 => u = .pointer (some ⟨r, 0, none⟩)
    | 46 => u = .int .i64 na
    | 47 => u = .int .i64 nb
    | 48 => u = .tuple #[.int .i64 tv, .bool tb]
    | 34 => u = .tuple #[.int .i64 tv, .bool tb]
    | 49 => u = .int .i64 tv
    | 50 => u = .bool tb
    | 4 => u = .int .i64 tv
    | _ => True
  let J : Option Value → World → Prop := fun q w1 => match q with
    | none => RSt W w0 w1 B r R3 A c (xs ++ [na])
    | some u => u = .int .i64 na ∧ RSt W w0 w1 B r { R3 with sk := .slice A xs.length c } A c xs
  have hKB : ∀ x y, Below x.heap.size x y → K x y := fun _ _ hb => Only.of_below hb
  have hJB : ∀ q x y, J q x → Below x.heap.size x y → J q y := fun q x y hj hb => by
    cases q with
    | none => exact RSt.below hj hb
    | some u => exact ⟨hj.1, RSt.below hj.2 hb⟩
  have HJ4 := hide (fun (q : Option Value) (w1 : World) (hj : J q w1) => show w1.cell? ⟨r, 4, none⟩ = some (.pointer (some ⟨sb, 0, none⟩)) by
    cases q with
    | none =>
      have hj : RSt W w0 w1 B r R3 A c (xs ++ [na]) := hj
      rw [hj.bk.cell 4, ← HSD3.out]; rfl
    | some u =>
      have hj : RSt W w0 w1 B r { R3 with sk := .slice A xs.length c } A c xs := hj.2
      rw [hj.bk.cell 4, ← HSD3.out]; rfl)
  have HJS := hide (fun (q : Option Value) (w1 : World) (hj : J q w1) => show w1.cell? ⟨sb, k, none⟩ = some (.func (.func (F)) #[] #[]) by
    cases q with
    | none =>
      have hj : RSt W w0 w1 B r R3 A c (xs ++ [na]) := hj
      exact (hj.old (p := ⟨sb, k, none⟩) HSB.out HSR.out).trans HSC.out
    | some u =>
      have hj : RSt W w0 w1 B r { R3 with sk := .slice A xs.length c } A c xs := hj.2
      exact (hj.old (p := ⟨sb, k, none⟩) HSB.out HSR.out).trans HSC.out)
  have HBX := hide (fun (w1 : World) (hk : K w3 w1) => show w1.cell? ⟨bx', 0, none⟩ = some (.int .u8 o) from (show Blk w1 bx' 23 #[.int .u8 o, .int .i64 n] from (hk.2 bx' BX3.out.lt (by simpa using hbr)).trans BX3.out).cell 0)
  refine wp_region_relJ 18 46 Rv K J (by kernel_rfl) (by kernel_rfl) (by kernel_rfl) (by kernel_rfl) (by kernel_rfl) (fun _ _ _ h1 h2 => Only.trans h1 h2) (hKB _ _ (Below.refl _ _).drew) (hJB none _ _ S3.out (Below.refl _ _).drew) (fun sl u wx wy h hk => ?mono) ?step ?fin
  case mono =>
    match sl with
    | 0 | 1 | 2 | 3 | 4 | 5 | 6 | 7 | 8 | 9 | 10 | 11 | 12 | 13 | 14 | 15 | 16 | 17 | 18 | 19 | 20 | 21 | 22 | 23 | 24 | 25 | 26 | 27 | 28 | 29 | 30 | 31 | 32 | 33 | 34 | 35 | 36 | 37 | 38 | 39 | 40 | 41 | 42 | 43 | 44 | 45 | 46 | 47 | 48 | 49 | 50 | _ + 51 => exact h
  case step =>
    intro op hop
    simp only [List.take, List.mem_cons, List.not_mem_nil, or_false] at hop
    rcases hop with rfl | rfl | rfl | rfl | rfl | rfl | rfl | rfl | rfl | rfl | rfl | rfl | rfl | rfl | rfl | rfl | rfl | rfl
    · refine ⟨fun h => absurd h (by decide), fun _ b => stepJ_of hKB hJB fun a w1 hk hj hsm hr => ?_⟩
      have e0 : a.tmps.getD 0 undef = .pointer (some ⟨r, 0, none⟩) := hsm 0 (by decide)
      rw [Array.getD_eq_getD_getElem?] at e0
      unfold Oper.wp
      simp only [execOp, Act.eval, Array.getD_eq_getD_getElem?, e0]
      go_simp
      exact ⟨_, rfl, rfl, Below.refl _ _⟩
    · refine ⟨fun h => absurd h (by decide), fun _ b => stepJ_of hKB hJB fun a w1 hk hj hsm hr => ?_⟩
      have e35 : a.tmps.getD 35 undef = .pointer (some ⟨r, 0, none⟩) := hr 35 (by decide) (by apply Array.mem_toList_iff.1; repeat (first | exact List.Mem.head _ | apply List.Mem.tail))
      rw [Array.getD_eq_getD_getElem?] at e35
      unfold Oper.wp
      simp only [execOp, Act.eval, Array.getD_eq_getD_getElem?, e35]
      go_simp
      exact ⟨_, rfl, rfl, Below.refl _ _⟩
    · refine ⟨fun h => absurd h (by decide), fun _ b => stepJ_of hKB hJB fun a w1 hk hj hsm hr => ?_⟩
      have e36 : a.tmps.getD 36 undef = .pointer (some ⟨r, 0, none⟩) := hr 36 (by decide) (by apply Array.mem_toList_iff.1; repeat (first | exact List.Mem.head _ | apply List.Mem.tail))
      rw [Array.getD_eq_getD_getElem?] at e36
      unfold Oper.wp
      simp only [execOp, Act.eval, Array.getD_eq_getD_getElem?, e36]
      go_simp
      exact ⟨_, rfl, rfl, Below.refl _ _⟩
    · refine ⟨fun h => absurd h (by decide), fun _ b => stepJ_of hKB hJB fun a w1 hk hj hsm hr => ?_⟩
      have e37 : a.tmps.getD 37 undef = .pointer (some ⟨r, 4, none⟩) := hr 37 (by decide) (by apply Array.mem_toList_iff.1; repeat (first | exact List.Mem.head _ | apply List.Mem.tail))
      have cc0 : w1.cell? ⟨r, 4, none⟩ = some (.pointer (some ⟨sb, 0, none⟩)) := HJ4.out _ w1 hj
      rw [Array.getD_eq_getD_getElem?] at e37
      unfold Oper.wp
      simp only [execOp, Act.eval, Array.getD_eq_getD_getElem?, e37]
      go_simp
      exact ⟨_, rfl, rfl, Below.refl _ _⟩
    · refine ⟨fun h => absurd h (by decide), fun _ b => stepJ_of hKB hJB fun a w1 hk hj hsm hr => ?_⟩
      have e2 : a.tmps.getD 2 undef = .pointer (some ⟨bx', 0, none⟩) := hsm 2 (by decide)
      rw [Array.getD_eq_getD_getElem?] at e2
      unfold Oper.wp
      simp only [execOp, Act.eval, Array.getD_eq_getD_getElem?, e2]
      go_simp
      exact ⟨_, rfl, rfl, Below.refl _ _⟩
    · refine ⟨fun h => absurd h (by decide), fun _ b => stepJ_of hKB hJB fun a w1 hk hj hsm hr => ?_⟩
      have e39 : a.tmps.getD 39 undef = .pointer (some ⟨bx', 0, none⟩) := hr 39 (by decide) (by apply Array.mem_toList_iff.1; repeat (first | exact List.Mem.head _ | apply List.Mem.tail))
      have cc0 : w1.cell? ⟨bx', 0, none⟩ = some (.int .u8 o) := HBX.out w1 hk
      rw [Array.getD_eq_getD_getElem?] at e39
      unfold Oper.wp
      simp only [execOp, Act.eval, Array.getD_eq_getD_getElem?, e39]
      go_simp
      exact ⟨_, rfl, rfl, Below.refl _ _⟩
    · refine ⟨fun h => absurd h (by decide), fun _ b => stepJ_of hKB hJB fun a w1 hk hj hsm hr => ?_⟩
      have e40 : a.tmps.getD 40 undef = .int .u8 o := hr 40 (by decide) (by apply Array.mem_toList_iff.1; repeat (first | exact List.Mem.head _ | apply List.Mem.tail))
      have hs := HSUB.out
      rw [Array.getD_eq_getD_getElem?] at e40
      unfold Oper.wp
      simp only [execOp, Act.eval, Array.getD_eq_getD_getElem?, e40]
      go_simp
      exact ⟨_, rfl, rfl, Below.refl _ _⟩
    · refine ⟨fun h => absurd h (by decide), fun _ b => stepJ_of hKB hJB fun a w1 hk hj hsm hr => ?_⟩
      have e38 : a.tmps.getD 38 undef = .pointer (some ⟨sb, 0, none⟩) := hr 38 (by decide) (by apply Array.mem_toList_iff.1; repeat (first | exact List.Mem.head _ | apply List.Mem.tail))
      rw [Array.getD_eq_getD_getElem?] at e38
      unfold Oper.wp
      simp only [execOp, Act.eval, Array.getD_eq_getD_getElem?, e38]
      go_simp
      exact ⟨_, rfl, rfl, Below.refl _ _⟩
    · refine ⟨fun h => absurd h (by decide), fun _ b => stepJ_of hKB hJB fun a w1 hk hj hsm hr => ?_⟩
      have e41 : a.tmps.getD 41 undef = .int .u8 k := hr 41 (by decide) (by apply Array.mem_toList_iff.1; repeat (first | exact List.Mem.head _ | apply List.Mem.tail))
      have e42 : a.tmps.getD 42 undef = .pointer (some ⟨sb, 0, none⟩) := hr 42 (by decide) (by apply Array.mem_toList_iff.1; repeat (first | exact List.Mem.head _ | apply List.Mem.tail))
      have g1 := HK11.out
      rw [Array.getD_eq_getD_getElem?] at e41
      rw [Array.getD_eq_getD_getElem?] at e42
      unfold Oper.wp
      simp only [execOp, Act.eval, Array.getD_eq_getD_getElem?, e41, e42]
      go_simp
      exact ⟨_, rfl, rfl, Below.refl _ _⟩
    · refine ⟨fun h => absurd h (by decide), fun _ b => stepJ_of hKB hJB fun a w1 hk hj hsm hr => ?_⟩
      have e43 : a.tmps.getD 43 undef = .pointer (some ⟨sb, k, none⟩) := hr 43 (by decide) (by apply Array.mem_toList_iff.1; repeat (first | exact List.Mem.head _ | apply List.Mem.tail))
      have cc0 : w1.cell? ⟨sb, k, none⟩ = some (.func (.func (F)) #[] #[]) := HJS.out _ w1 hj
      rw [Array.getD_eq_getD_getElem?] at e43
      unfold Oper.wp
      simp only [execOp, Act.eval, Array.getD_eq_getD_getElem?, e43]
      go_simp
      exact ⟨_, rfl, rfl, Below.refl _ _⟩
    · refine ⟨fun h => absurd h (by decide), fun _ b => stepJ_of hKB hJB fun a w1 hk hj hsm hr => ?_⟩
      have e0 : a.tmps.getD 0 undef = .pointer (some ⟨r, 0, none⟩) := hsm 0 (by decide)
      rw [Array.getD_eq_getD_getElem?] at e0
      unfold Oper.wp
      simp only [execOp, Act.eval, Array.getD_eq_getD_getElem?, e0]
      go_simp
      exact ⟨_, rfl, rfl, Below.refl _ _⟩
    · refine ⟨fun _ a1 w1 hk hj hsm hr => ?_, fun h => absurd rfl h⟩
      have e45 : a1.tmps.getD 45 undef = .pointer (some ⟨r, 0, none⟩) := hr 45 (by decide) (by apply Array.mem_toList_iff.1; repeat (first | exact List.Mem.head _ | apply List.Mem.tail))
      have hj : RSt W w0 w1 B r R3 A c (xs ++ [na]) := hj
      rw [Array.getD_eq_getD_getElem?] at e45
      unfold Oper.wp
      simp only [execOp, Act.eval, Array.getD_eq_getD_getElem?, e45]
      go_simp
      refine (pop_c na hj HL.out).mono ?_
      rintro e w9 ⟨rfl, h9, u9, hw9⟩
      exact ⟨_, rfl, rfl, by rw [hw9]; exact Only.set_ _ _ (by simp), rfl, h9⟩
    · refine ⟨fun h => absurd h (by decide), fun _ b => stepJ_of hKB hJB fun a w1 hk hj hsm hr => ?_⟩
      have e3 : a.tmps.getD 3 undef = .int .i64 nb := hsm 3 (by decide)
      rw [Array.getD_eq_getD_getElem?] at e3
      unfold Oper.wp
      simp only [execOp, Act.eval, Array.getD_eq_getD_getElem?, e3]
      go_simp
      exact ⟨_, rfl, rfl, Below.refl _ _⟩
    · refine ⟨fun h => absurd h (by decide), fun _ b => stepJ_of hKB hJB fun a w1 hk hj hsm hr => ?_⟩
      have e44 : a.tmps.getD 44 undef = .func (.func (F)) #[] #[] := hr 44 (by decide) (by apply Array.mem_toList_iff.1; repeat (first | exact List.Mem.head _ | apply List.Mem.tail))
      have e46 : a.tmps.getD 46 undef = .int .i64 na := hr 46 (by decide) (by apply Array.mem_toList_iff.1; repeat (first | exact List.Mem.head _ | apply List.Mem.tail))
      have e47 : a.tmps.getD 47 undef = .int .i64 nb := hr 47 (by decide) (by apply Array.mem_toList_iff.1; repeat (first | exact List.Mem.head _ | apply List.Mem.tail))
      have hc := HC.out #[.int .i64 na, .int .i64 nb] w1
      rw [Array.getD_eq_getD_getElem?] at e44
      rw [Array.getD_eq_getD_getElem?] at e46
      rw [Array.getD_eq_getD_getElem?] at e47
      unfold Oper.wp
      simp only [execOp, Act.eval, Array.getD_eq_getD_getElem?, e44, e46, e47]
      go_simp
      refine (HF2.out w1).mono ?_
      rintro e w9 ⟨rfl, rfl⟩
      exact ⟨_, rfl, rfl, Below.refl _ _⟩
    · refine ⟨fun h => absurd h (by decide), fun _ b => stepJ_of hKB hJB fun a w1 hk hj hsm hr => ?_⟩
      have e48 : a.tmps.getD 48 undef = .tuple #[.int .i64 tv, .bool tb] := hr 48 (by decide) (by apply Array.mem_toList_iff.1; repeat (first | exact List.Mem.head _ | apply List.Mem.tail))
      rw [Array.getD_eq_getD_getElem?] at e48
      unfold Oper.wp
      simp only [execOp, Act.eval, Array.getD_eq_getD_getElem?, e48]
      go_simp
      exact ⟨_, rfl, rfl, Below.refl _ _⟩
    · refine ⟨fun h => absurd h (by decide), fun _ b => stepJ_of hKB hJB fun a w1 hk hj hsm hr => ?_⟩
      have e34 : a.tmps.getD 34 undef = .tuple #[.int .i64 tv, .bool tb] := hr 34 (by decide) (by apply Array.mem_toList_iff.1; repeat (first | exact List.Mem.head _ | apply List.Mem.tail))
      rw [Array.getD_eq_getD_getElem?] at e34
      unfold Oper.wp
      simp only [execOp, Act.eval, Array.getD_eq_getD_getElem?, e34]
      go_simp
      exact ⟨_, rfl, rfl, Below.refl _ _⟩
    · refine ⟨fun h => absurd h (by decide), fun _ b => stepJ_of hKB hJB fun a w1 hk hj hsm hr => ?_⟩
      have e34 : a.tmps.getD 34 undef = .tuple #[.int .i64 tv, .bool tb] := hr 34 (by decide) (by apply Array.mem_toList_iff.1; repeat (first | exact List.Mem.head _ | apply List.Mem.tail))
      rw [Array.getD_eq_getD_getElem?] at e34
      unfold Oper.wp
      simp only [execOp, Act.eval, Array.getD_eq_getD_getElem?, e34]
      go_simp
      exact ⟨_, rfl, rfl, Below.refl _ _⟩
    · refine ⟨fun h => absurd h (by decide), fun _ b => stepJ_of hKB hJB fun a w1 hk hj hsm hr => ?_⟩
      have e49 : a.tmps.getD 49 undef = .int .i64 tv := hr 49 (by decide) (by apply Array.mem_toList_iff.1; repeat (first | exact List.Mem.head _ | apply List.Mem.tail))
      rw [Array.getD_eq_getD_getElem?] at e49
      unfold Oper.wp
      simp only [execOp, Act.eval, Array.getD_eq_getD_getElem?, e49]
      go_simp
      exact ⟨_, rfl, rfl, Below.refl _ _⟩
  case fin =>
    intro ff w9 hk hj hr
    have hj : ff 46 = .int .i64 na ∧ RSt W w0 w9 B r { R3 with sk := .slice A xs.length c } A c xs := hj
    have e5 : ff 50 = .bool tb := hr 50 (by decide)
    have e4 : ff 4 = .int .i64 tv := hr 4 (by decide)
    have S9 := hide hj.2
    clear hj hk hr hKB hJB HJ4 HJS HBX
    simp only [putAll, slotsOf, List.take, List.drop, List.filterMap_cons, List.filterMap_nil, List.foldl_cons, List.foldl_nil, Act.put, e4, e5]
    simp only [List.setIfInBounds_toArray, List.set_cons_succ, List.set_cons_zero]
    have H1 := HTV.out
    have H2 := HTB.out
    cases h2 : twoF k na nb with
    | some v =>
      rw [h2] at H1 H2
      simp only [Option.getD_some, Option.isSome_some] at H1 H2
      subst H1 H2
      have H3 := hide h2
      clear h2 HTV HTB HF2
      go_wp2_with fail
      refine (push_c v S9.out HL.out).mono ?_
      rintro e w11 ⟨rfl, A', c', h⟩
      have FIN := hide (show TwoPost W w0 B r R p k na nb xs w11 by unfold TwoPost; rw [H3.out]; refine ⟨A', c', ?_⟩; rw [← HR3.out] at h; exact h)
      clear h
      go_wp2_with fail
      refine bodyPost_ret (results_none rfl _ _ _) rfl ?_
      exact ⟨rfl, FIN.out⟩
    | none =>
      rw [h2] at H1 H2
      simp only [Option.getD_none, Option.isSome_none] at H1 H2
      subst H1 H2
      have H3 := hide h2
      clear h2 HTV HTB HF2
      go_wp2_with fail
      refine (endAt_c 1 S9.out).mono ?_
      rintro e w11 ⟨rfl, h⟩
      have FIN := hide (show TwoPost W w0 B r R p k na nb xs w11 by unfold TwoPost; rw [H3.out]; refine ⟨A, c, ?_⟩; rw [← HR3.out] at h; exact h)
      clear h
      go_wp2_with fail
      refine bodyPost_ret (results_none rfl _ _ _) rfl ?_
      exact ⟨rfl, FIN.out⟩
end
end Vm
end Go.Proofs.YtoiibphbogpojaaDoor
