/- One step of a rank: a number, a variable's setting, the end. -/
import Derived.Test.YtoiibphbogpojaaDoorRows
import Derived.Test.YtoiibphbogpojaaDoorVmA
import Derived.Test.YtoiibphbogpojaaDoorQuietBelow
import Derived.BigQuiet
namespace Go.Proofs.YtoiibphbogpojaaDoor
open Go Go.RowKit Go.Proofs.YtoiibphbogpojaaDoor.Cod
set_option linter.unusedVariables false
set_option linter.unusedSimpArgs false
namespace Vm
section
variable {W w0 w w' : World} {B r : Nat} {R : Rk} {A : Option Addr} {c : Nat} {xs : List Int}
theorem RSt.below (s : RSt W w0 w B r R A c xs) (h : Below w.heap.size w w') : RSt W w0 w' B r R A c xs :=
  ⟨s.bk.below h s.bk.lt, s.sk, (by
    refine ⟨s.own.1, s.own.2.imp id ?_⟩
    rintro ⟨g, cap, cur, h0, hge, hh, q⟩
    exact ⟨g, cap, cur, h0, hge, (h.block g (Array.getElem?_eq_some_iff.1 hh).1).trans hh, q⟩), fun j h1 h2 => (h.block j (Nat.lt_of_lt_of_le h1 s.le)).trans (s.kp j h1 h2), Nat.le_trans s.le h.size, s.rb, s.wr, s.bl.trans (h.mono s.bl.size)⟩
theorem RSt.old (s : RSt W w0 w B r R A c xs) {p : Addr} (h1 : p.block < B) (h2 : p.block ≠ r) : w.cell? p = w0.cell? p := World.cell?_of_block (w := w0) (a := p) (s.kp p.block h1 h2)
/-- The instruction that is next. -/
structure Nxt (w0 : World) (B r : Nat) (R : Rk) (p : Nat) (o : Int) (n : Int) : Prop where
  at_ : ∃ ad cn cc, R.cd = .slice (some ad) cn cc ∧ p < cn ∧ ad.block < B ∧ ad.block ≠ r ∧ w0.cell? (ad.add (p * 2)) = some (.int .u8 o) ∧ w0.cell? ⟨(ad.add (p * 2)).block, (ad.add (p * 2)).off + 1, none⟩ = some (.int .i64 n)
  pl : R.pl = .int .i64 p
  pb : p ≤ 100000
/-- What lies ahead of the switch of a step: the instruction in a box, the place the next one. -/
structure Pre (W w0 w : World) (B r : Nat) (R : Rk) (A : Option Addr) (c : Nat) (xs : List Int) (p : Nat) (o n : Int) (ad : Addr) (cn cc : Nat) : Prop where
  hpI : (p : Int) < (cn : Int)
  y0 : w.cell? ⟨r, 0, none⟩ = some (.slice (some ad) cn cc)
  y9 : w.cell? ⟨r, 9, none⟩ = some (.int .i64 p)
  i0 : w.cell? (ad.add (p * 2)) = some (.int .u8 o)
  i1 : w.cell? ⟨(ad.add (p * 2)).block, (ad.add (p * 2)).off + 1, none⟩ = some (.int .i64 n)
  s1 : IntKind.i64.wrap ((p : Int) + 1) = (p : Int) + 1
  z0 : (w.alloc (.cells #[.int .u8 0, .int .i64 0] 23)).cell? (ad.add (p * 2)) = some (.int .u8 o)
  z1 : (w.alloc (.cells #[.int .u8 0, .int .i64 0] 23)).cell? ⟨(ad.add (p * 2)).block, (ad.add (p * 2)).off + 1, none⟩ = some (.int .i64 n)
  zr0 : (w.alloc (.cells #[.int .u8 0, .int .i64 0] 23)).cell? ⟨r, 0, none⟩ = some (.slice (some ad) cn cc)
  zr9 : (w.alloc (.cells #[.int .u8 0, .int .i64 0] 23)).cell? ⟨r, 9, none⟩ = some (.int .i64 p)
  fz : (w.alloc (.cells #[.int .u8 0, .int .i64 0] 23)).frozen? ⟨w.heap.size, 0, none⟩ = false
  cz0 : (w.alloc (.cells #[.int .u8 0, .int .i64 0] 23)).cell? ⟨w.heap.size, 0, none⟩ = some (.int .u8 0)
  cz1 : (w.alloc (.cells #[.int .u8 0, .int .i64 0] 23)).cell? ⟨w.heap.size, 1, none⟩ = some (.int .i64 0)
  xr : (w.alloc (.cells #[.int .u8 o, .int .i64 n] 23)).cell? ⟨r, 9, none⟩ = some (.int .i64 p)
  fr : (w.alloc (.cells #[.int .u8 o, .int .i64 n] 23)).frozen? ⟨r, 9, none⟩ = false
  cy0 : ((w.alloc (.cells #[.int .u8 o, .int .i64 n] 23)).setCell ⟨r, 9, none⟩ (.int .i64 ((p : Int) + 1))).cell? ⟨w.heap.size, 0, none⟩ = some (.int .u8 o)
  cy1 : ((w.alloc (.cells #[.int .u8 o, .int .i64 n] 23)).setCell ⟨r, 9, none⟩ (.int .i64 ((p : Int) + 1))).cell? ⟨w.heap.size, 1, none⟩ = some (.int .i64 n)
  hrl : r < w.heap.size
  st : Hid (RSt W w0 ((w.setCell ⟨r, 9, none⟩ (.int .i64 ((p : Int) + 1))).alloc (.cells #[.int .u8 o, .int .i64 n] 23)).drew B r { R with pl := .int .i64 ((p : Int) + 1) } A c xs)
  bx : Hid (Blk ((w.setCell ⟨r, 9, none⟩ (.int .i64 ((p : Int) + 1))).alloc (.cells #[.int .u8 o, .int .i64 n] 23)).drew w.heap.size 23 #[.int .u8 o, .int .i64 n])
theorem pre_of {p : Nat} {o n : Int} (s : RSt W w0 w B r R A c xs) (x : Nxt w0 B r R p o n) : ∃ ad cn cc, Pre W w0 w B r R A c xs p o n ad cn cc := by
  obtain ⟨ad, cn, cc, hcd, hpc, hab, har, h0, h1⟩ := x.at_
  have hadb : (ad.add (p * 2)).block < B := by rw [block_of_add]; exact hab
  have hadr : (ad.add (p * 2)).block ≠ r := by rw [block_of_add]; exact har
  have hz := (Below.refl w.heap.size w).alloc (Nat.le_refl _) (.cells #[.int .u8 0, .int .i64 0] 23)
  have ha := (Below.refl w.heap.size w).alloc (Nat.le_refl _) (.cells #[.int .u8 o, .int .i64 n] 23)
  have Sz := s.below hz
  have S1 := s.below ha
  have kz := Blk.new w 23 #[.int .u8 0, .int .i64 0]
  have k1 := Blk.new w 23 #[.int .u8 o, .int .i64 n]
  have k2 := k1.far (p := ⟨r, 9, none⟩) (by intro e; have e1 : w.heap.size = r := e; have := s.bk.lt; omega) (.int .i64 ((p : Int) + 1))
  have S0 := s.set 9 (.int .i64 ((p : Int) + 1)) (R' := { R with pl := .int .i64 ((p : Int) + 1) }) (by rfl) rfl
  have hsz : (w.setCell ⟨r, 9, none⟩ (.int .i64 ((p : Int) + 1))).heap.size = w.heap.size := by simp [World.setCell]
  have S0' := S0.below (((Below.refl _ _).alloc (Nat.le_refl _) (.cells #[.int .u8 o, .int .i64 n] 23)).drew)
  have k3 := Blk.new (w.setCell ⟨r, 9, none⟩ (.int .i64 ((p : Int) + 1))) 23 #[.int .u8 o, .int .i64 n]
  rw [hsz] at k3
  refine ⟨ad, cn, cc, ?_⟩
  exact {
    hpI := by omega
    y0 := by rw [s.bk.cell 0, ← hcd]; rfl
    y9 := by rw [s.bk.cell 9, ← x.pl]; rfl
    i0 := (s.old hadb hadr).trans h0
    i1 := (s.old (p := ⟨(ad.add (p * 2)).block, (ad.add (p * 2)).off + 1, none⟩) hadb hadr).trans h1
    s1 := by rw [IntKind.wrap_i64]; have := x.pb; omega
    z0 := (Sz.old hadb hadr).trans h0
    z1 := (Sz.old (p := ⟨(ad.add (p * 2)).block, (ad.add (p * 2)).off + 1, none⟩) hadb hadr).trans h1
    zr0 := by rw [Sz.bk.cell 0, ← hcd]; rfl
    zr9 := by rw [Sz.bk.cell 9, ← x.pl]; rfl
    fz := kz.frozen 0
    cz0 := kz.cell 0
    cz1 := kz.cell 1
    xr := by rw [S1.bk.cell 9, ← x.pl]; rfl
    fr := S1.bk.frozen 9
    cy0 := k2.cell 0
    cy1 := k2.cell 1
    hrl := s.bk.lt
    st := hide S0'
    bx := hide k3 }
set_option maxRecDepth 100000 in
set_option maxHeartbeats 4000000 in
/-- A number is put on the stack. -/
theorem step_num (n : Int) (p : Nat) (s : RSt W w0 w B r R A c xs) (x : Nxt w0 B r R p 1 n) (hl : xs.length ≤ 100000) :
    Calls Tryd.prog 16 #[.pointer (some ⟨r, 0, none⟩)] w fun e w' => e = .returned (.tuple #[]) ∧ ∃ A' c', RSt W w0 w' B r { R with pl := .int .i64 ((p : Int) + 1), sk := .slice A' (xs.length + 1) c' } A' c' (xs ++ [n]) := by
  obtain ⟨ad, cn, cc, hpI, y0, y9, i0, i1, s1, z0, z1, zr0, zr9, fz, cz0, cz1, xr, fr, cy0, cy1, hrl, st, bx⟩ := pre_of s x
  have HL := hide hl
  clear s x hl
  go_enter Tryd.func16, Tryd.ntmps16
  go_wp2_with fail
  go_region
  go_wp2_with fail
  refine (push_c n st.out HL.out).mono ?_
  rintro v w' ⟨rfl, A', c', h⟩
  have H := hide h
  clear h
  go_wp2_with fail
  go_end0
  exact ⟨rfl, A', c', H.out⟩
end
end Vm
end Go.Proofs.YtoiibphbogpojaaDoor
