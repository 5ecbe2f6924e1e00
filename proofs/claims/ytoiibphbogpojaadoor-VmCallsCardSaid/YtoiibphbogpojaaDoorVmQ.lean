/- The run of a code of one operation with two sides. -/
import Derived.Test.YtoiibphbogpojaaDoorRows
import Derived.Test.YtoiibphbogpojaaDoorVmI
import Derived.Test.YtoiibphbogpojaaDoorVmP
namespace Go.Proofs.YtoiibphbogpojaaDoor
open Go Go.RowKit Go.Proofs.YtoiibphbogpojaaDoor.Cod
set_option linter.unusedVariables false
set_option linter.unusedSimpArgs false
namespace Vm
theorem blk_ne {w : World} {i j : Nat} {t u : TypeId} {a b : Array Value} (h : Blk w i t a) (k : Blk w j u b) (hne : t ≠ u) : i ≠ j := fun e => by
  subst e
  have q := h.symm.trans k
  injection q with q
  injection q with _ q _
  exact hne q
theorem nxt_of {w0 : World} {B r h n p : Nat} {R : Rk} {o nn : Int} {cur : Array Value} (hh : Blk w0 h 23 cur) (hhB : h < B) (hhr : h ≠ r) (hcd : R.cd = .slice (some ⟨h, 0, none⟩) n n) (hp : p < n) (hp2 : p ≤ 100000) (hpl : R.pl = .int .i64 (p : Int)) (c0 : cur[p * 2]? = some (.int .u8 o)) (c1 : cur[p * 2 + 1]? = some (.int .i64 nn)) : Nxt w0 B r R p o nn := by
  have e : (⟨h, 0, none⟩ : Addr).add (p * 2) = ⟨h, p * 2, none⟩ := by unfold Addr.add; split <;> simp_all
  exact ⟨⟨_, n, n, hcd, hp, hhB, hhr, by rw [e, hh.cell]; exact c0, by rw [e]; exact (hh.cell _).trans c1⟩, hpl, hp2⟩
section
variable {W wn : World} {r h sb vb n V : Nat} {ce : Value}
/-- The state of a rank of a family. -/
def Fam (W : World) (B r : Nat) (R0 : Rk) (isF ftF : Nat → Int) (wF : Nat → World) (xF : Nat → List Int) (u : Nat) (w1 : World) : Prop :=
  ∃ A c, RSt W (wF u) w1 B r { R0 with pl := .int .i64 (u : Int), sk := .slice A (xF u).length c, is_ := .int .u8 (isF u), ft := .int .u8 (ftF u) } A c (xF u)
theorem run_gen (isF ftF : Nat → Int) (wF : Nat → World) (xF : Nat → List Int) (N : Nat) (kind f : Int) (hr : Blk wn r 55 (rkA { nwR h n sb vb V with ce := ce })) (hv : Blk wn vb 2 (intZ V)) (hWr : W.heap.size ≤ r) (hWv : W.heap.size ≤ vb) (hW : Below W.heap.size W wn)
    (h0 : wF 0 = (wn.alloc (.cells #[.int .u8 0, .int .u8 0, .int .i64 0, .int .i64 0, .int .i64 0, .int .i64 0, .int .i64 0, .int .i64 0, .int .u8 0, .slice none 0 0, .int .i64 0, .int .i64 0, .int .u8 0] 35)) ∧ xF 0 = [] ∧ isF 0 = 0 ∧ ftF 0 = 0) (hw : ∀ u, wF u = (wn.alloc (.cells #[.int .u8 0, .int .u8 0, .int .i64 0, .int .i64 0, .int .i64 0, .int .i64 0, .int .i64 0, .int .i64 0, .int .u8 0, .slice none 0 0, .int .i64 0, .int .i64 0, .int .u8 0] 35)) ∨ ∃ i z, wF u = (wn.alloc (.cells #[.int .u8 0, .int .u8 0, .int .i64 0, .int .i64 0, .int .i64 0, .int .i64 0, .int .i64 0, .int .i64 0, .int .u8 0, .slice none 0 0, .int .i64 0, .int .i64 0, .int .u8 0] 35)).setCell ⟨vb, i, none⟩ z)
    (hi : ∀ u, u < N → isF u = 0) (hz : isF N ≠ 0) (ho : isF N = 3 ∧ kind = 2 ∧ f = 0 ∨ isF N = 5 ∧ kind = 4 ∧ f = ftF N) (hN : N < 9)
    (hs : ∀ u w1, u < N → Fam W (wn.heap.size + 1) r { nwR h n sb vb V with ce := ce } isF ftF wF xF u w1 → Calls Tryd.prog 16 #[.pointer (some ⟨r, 0, none⟩)] w1 fun e w' => e = .returned (.tuple #[]) ∧ Fam W (wn.heap.size + 1) r { nwR h n sb vb V with ce := ce } isF ftF wF xF (u + 1) w') :
    Calls Tryd.prog 6 #[.pointer (some ⟨r, 0, none⟩), .int .i64 (9 : Nat)] wn fun e w' => e = .returned (.tuple #[.agg (outA kind f), .int .i64 N]) ∧ (∀ i, w'.cell? ⟨vb, i, none⟩ = (wF N).cell? ⟨vb, i, none⟩) ∧ w'.cell? ⟨r, 4, none⟩ = some (.pointer (some ⟨sb, 0, none⟩)) ∧ w'.cell? ⟨r, 11, none⟩ = some (.slice (some ⟨vb, 0, none⟩) V V) ∧ Below W.heap.size W w' := by
  have hb1 : Below wn.heap.size wn (wn.alloc (.cells #[.int .u8 0, .int .u8 0, .int .i64 0, .int .i64 0, .int .i64 0, .int .i64 0, .int .i64 0, .int .i64 0, .int .u8 0, .slice none 0 0, .int .i64 0, .int .i64 0, .int .u8 0] 35)) := (Below.refl _ _).alloc (Nat.le_refl _) _
  have hsz : (wn.alloc (.cells #[.int .u8 0, .int .u8 0, .int .i64 0, .int .i64 0, .int .i64 0, .int .i64 0, .int .i64 0, .int .i64 0, .int .u8 0, .slice none 0 0, .int .i64 0, .int .i64 0, .int .u8 0] 35)).heap.size = wn.heap.size + 1 := by simp
  have hrS := hr.below hb1 hr.lt
  have hrl := hr.lt
  have hvl := hv.lt
  have hne : vb ≠ r := blk_ne hv hr (by decide)
  have hout := Blk.new wn 35 #[.int .u8 0, .int .u8 0, .int .i64 0, .int .i64 0, .int .i64 0, .int .i64 0, .int .i64 0, .int .i64 0, .int .u8 0, .slice none 0 0, .int .i64 0, .int .i64 0, .int .u8 0]
  refine (Run_c (w := wn) (r := r) (Fam W (wn.heap.size + 1) r { nwR h n sb vb V with ce := ce } isF ftF wF xF) ⟨sb, 0, none⟩ N 9 (isF N) kind f hrl (hr.cell 4) (hrS.cell 4) ?_ ?_ hs ?_ hz ?_ ?_ ?_ hN (by omega)).mono ?_
  · refine ⟨none, 0, ?_⟩
    obtain ⟨e1, e2, e3, e4⟩ := h0
    rw [e1, e2, e3, e4]
    exact ⟨hrS, rfl, ⟨rfl, .inl ⟨rfl, rfl⟩⟩, fun _ _ _ => rfl, by rw [hsz]; exact Nat.le_refl _, by omega, hWr, hW.trans (hb1.mono hW.size)⟩
  · rintro u w1 hu ⟨A, c, s⟩
    rw [s.bk.cell 7]
    show some (Value.int .u8 (isF u)) = _
    rw [hi u hu]
  · rintro w1 ⟨A, c, s⟩
    exact s.bk.cell 7
  · rintro w1 ⟨A, c, s⟩
    rcases ho with ⟨h1, rfl, rfl⟩ | ⟨h1, rfl, rfl⟩
    · exact out_done s (by show Value.int .u8 (isF N) = _; rw [h1])
    · exact out_fault (ftF N) s (by show Value.int .u8 (isF N) = _; rw [h1]) rfl
  · rintro u w1 w' ⟨A, c, s⟩ hb
    exact ⟨A, c, s.below hb⟩
  · rintro u w1 ⟨A, c, s⟩
    refine (s.kp wn.heap.size (Nat.lt_succ_self _) (by omega)).trans ?_
    rcases hw u with e | ⟨i, z, e⟩
    · rw [e]; exact hout
    · rw [e]; exact hout.far (p := ⟨vb, i, none⟩) (by show wn.heap.size ≠ vb; omega) z
  · rintro e w' ⟨he, w1, ⟨A, c, s⟩, hs1, hk, hbb⟩
    have hr' : Blk w' r 55 _ := (hk r hrl).trans s.bk
    exact ⟨he, fun i => (World.cell?_of_block (w := w1) (a := ⟨vb, i, none⟩) (hk vb hvl)).trans (s.old (p := ⟨vb, i, none⟩) (by show vb < _; omega) hne), hr'.cell 4, hr'.cell 11, hbb _ _ s.bl (by omega)⟩
/-- The cells of the code. -/
def oneVals (k : Nat) (a b : Int) : List Value := [.int .u8 1, .int .i64 a, .int .u8 1, .int .i64 b, .int .u8 (10 + (k : Int)), .int .i64 0, .int .u8 3, .int .i64 0, .int .u8 29, .int .i64 0]
theorem run_one (k : Nat) (a b : Int) (cur : Array Value) (hk : k < 11) (ha : I64 a) (hb : I64 b) (hr : Blk wn r 55 (rkA { nwR h 5 sb vb 1 with ce := ce })) (hh : Blk wn h 23 cur) (hcur : ∀ (j : Nat) (v : Value), (oneVals k a b)[j]? = some v → cur[j]? = some v) (hsb : Blk wn sb 67 sdCs) (hv : Blk wn vb 2 (intZ 1)) (hWr : W.heap.size ≤ r) (hWv : W.heap.size ≤ vb) (hW : Below W.heap.size W wn) :
    Calls Tryd.prog 6 #[.pointer (some ⟨r, 0, none⟩), .int .i64 (9 : Nat)] wn fun e w' => (match twoF k a b with
      | some v => e = .returned (.tuple #[.agg (outA 2 0), .int .i64 (5 : Nat)]) ∧ w'.cell? ⟨vb, 0, none⟩ = some (.int .i64 v)
      | none => e = .returned (.tuple #[.agg (outA 4 1), .int .i64 (3 : Nat)]) ∧ w'.cell? ⟨vb, 0, none⟩ = some (.int .i64 0)) ∧ w'.cell? ⟨r, 4, none⟩ = some (.pointer (some ⟨sb, 0, none⟩)) ∧ w'.cell? ⟨r, 11, none⟩ = some (.slice (some ⟨vb, 0, none⟩) 1 1) ∧ Below W.heap.size W w' := by
  have hb1 : Below wn.heap.size wn (wn.alloc (.cells #[.int .u8 0, .int .u8 0, .int .i64 0, .int .i64 0, .int .i64 0, .int .i64 0, .int .i64 0, .int .i64 0, .int .u8 0, .slice none 0 0, .int .i64 0, .int .i64 0, .int .u8 0] 35)) := (Below.refl _ _).alloc (Nat.le_refl _) _
  have hhS := hh.below hb1 hh.lt
  have hsS := hsb.below hb1 hsb.lt
  have hvS := hv.below hb1 hv.lt
  have hhr : h ≠ r := blk_ne hh hr (by decide)
  have hsr : sb ≠ r := blk_ne hsb hr (by decide)
  have hvr : vb ≠ r := blk_ne hv hr (by decide)
  have hhv : h ≠ vb := blk_ne hh hv (by decide)
  have hz1 : (intZ 1).size = 1 := by unfold intZ; rw [size_madeCells]
  have l1 := hh.lt
  have l2 := hsb.lt
  have l3 := hv.lt
  have hS4 : ∀ u, (wn.alloc (.cells #[.int .u8 0, .int .u8 0, .int .i64 0, .int .i64 0, .int .i64 0, .int .i64 0, .int .i64 0, .int .i64 0, .int .u8 0, .slice none 0 0, .int .i64 0, .int .i64 0, .int .u8 0] 35)).setCell ⟨vb, 0, none⟩ u = (wn.alloc (.cells #[.int .u8 0, .int .u8 0, .int .i64 0, .int .i64 0, .int .i64 0, .int .i64 0, .int .i64 0, .int .i64 0, .int .u8 0, .slice none 0 0, .int .i64 0, .int .i64 0, .int .u8 0] 35)).setCell ⟨vb, 0, none⟩ u := fun _ => rfl
  have hhT : ∀ u, Blk ((wn.alloc (.cells #[.int .u8 0, .int .u8 0, .int .i64 0, .int .i64 0, .int .i64 0, .int .i64 0, .int .i64 0, .int .i64 0, .int .u8 0, .slice none 0 0, .int .i64 0, .int .i64 0, .int .u8 0] 35)).setCell ⟨vb, 0, none⟩ u) h 23 cur := fun u => hhS.far (p := ⟨vb, 0, none⟩) hhv u
  cases h2 : twoF k a b with
  | some v =>
    refine (run_gen (fun u => if u = 5 then 3 else 0) (fun _ => 0) (fun u => if u ≤ 3 then (wn.alloc (.cells #[.int .u8 0, .int .u8 0, .int .i64 0, .int .i64 0, .int .i64 0, .int .i64 0, .int .i64 0, .int .i64 0, .int .u8 0, .slice none 0 0, .int .i64 0, .int .i64 0, .int .u8 0] 35)) else (wn.alloc (.cells #[.int .u8 0, .int .u8 0, .int .i64 0, .int .i64 0, .int .i64 0, .int .i64 0, .int .i64 0, .int .i64 0, .int .u8 0, .slice none 0 0, .int .i64 0, .int .i64 0, .int .u8 0] 35)).setCell ⟨vb, 0, none⟩ (.int .i64 v)) (fun u => match u with | 0 => [] | 1 => [a] | 2 => [a, b] | 3 => [v] | _ => []) 5 2 0 hr hv hWr hWv hW ⟨rfl, rfl, rfl, rfl⟩ (fun u => ?_) (fun u hu => if_neg (by omega)) (by decide) (.inl ⟨rfl, rfl, rfl⟩) (by omega) ?_).mono ?_
    · by_cases h9 : u ≤ 3
      · exact .inl (if_pos h9)
      · exact .inr ⟨0, _, if_neg h9⟩
    · rintro u w1 hu ⟨A, c, s⟩
      match u, hu with
      | 0, _ => exact (step_num a 0 s (nxt_of hhS (by omega) hhr rfl (by omega) (by omega) rfl (hcur 0 _ rfl) (hcur 1 _ rfl)) (by simp)).mono fun e w' ⟨he, A', c', h⟩ => ⟨he, A', c', h⟩
      | 1, _ => exact (step_num b 1 s (nxt_of hhS (by omega) hhr rfl (by omega) (by omega) rfl (hcur 2 _ rfl) (hcur 3 _ rfl)) (by simp)).mono fun e w' ⟨he, A', c', h⟩ => ⟨he, A', c', h⟩
      | 2, _ =>
        refine (step_two (xs := []) k 2 (sdF.getD k 0) _ 0 a b sb (side_c k hk) (side_call k hk) hk rfl ha hb s (nxt_of hhS (by omega) hhr rfl (by omega) (by omega) rfl (hcur 4 _ rfl) (hcur 5 _ rfl)) (by simp) rfl (by omega) hsr ((hsS.cell k).trans (sdCs_at hk))).mono ?_
        rintro e w' ⟨he, h⟩
        unfold TwoPost at h
        rw [h2] at h
        obtain ⟨A', c', h⟩ := h
        exact ⟨he, A', c', h⟩
      | 3, _ => exact (step_set (xs := []) 0 3 1 1 vb v (intZ 1) s (nxt_of hhS (by omega) hhr rfl (by omega) (by omega) rfl (hcur 6 _ rfl) (hcur 7 _ rfl)) (by simp) rfl (by omega) (by omega) hvr hWv hvS (by rw [hz1]; decide)).mono fun e w' ⟨he, h⟩ => ⟨he, A, c, h⟩
      | 4, _ => exact (step_stop 0 4 s (nxt_of (hhT _) (by omega) hhr rfl (by omega) (by omega) rfl (hcur 8 _ rfl) (hcur 9 _ rfl))).mono fun e w' ⟨he, h⟩ => ⟨he, A, c, h⟩
    · rintro e w' ⟨he, hc, h4, h11, hb9⟩
      refine ⟨⟨he, (hc 0).trans ?_⟩, h4, h11, hb9⟩
      exact ((hvS.set_ 0 (.int .i64 v)).cell 0).trans (by rw [Array.getElem?_setIfInBounds, if_pos rfl, if_pos (by rw [hz1]; decide)])
  | none =>
    refine (run_gen (fun u => if u = 3 then 5 else 0) (fun u => if u = 3 then 1 else 0) (fun _ => (wn.alloc (.cells #[.int .u8 0, .int .u8 0, .int .i64 0, .int .i64 0, .int .i64 0, .int .i64 0, .int .i64 0, .int .i64 0, .int .u8 0, .slice none 0 0, .int .i64 0, .int .i64 0, .int .u8 0] 35))) (fun u => match u with | 0 => [] | 1 => [a] | 2 => [a, b] | _ => []) 3 4 1 hr hv hWr hWv hW ⟨rfl, rfl, rfl, rfl⟩ (fun u => .inl rfl) (fun u hu => if_neg (by omega)) (by decide) (.inr ⟨rfl, rfl, rfl⟩) (by omega) ?_).mono ?_
    · rintro u w1 hu ⟨A, c, s⟩
      match u, hu with
      | 0, _ => exact (step_num a 0 s (nxt_of hhS (by omega) hhr rfl (by omega) (by omega) rfl (hcur 0 _ rfl) (hcur 1 _ rfl)) (by simp)).mono fun e w' ⟨he, A', c', h⟩ => ⟨he, A', c', h⟩
      | 1, _ => exact (step_num b 1 s (nxt_of hhS (by omega) hhr rfl (by omega) (by omega) rfl (hcur 2 _ rfl) (hcur 3 _ rfl)) (by simp)).mono fun e w' ⟨he, A', c', h⟩ => ⟨he, A', c', h⟩
      | 2, _ =>
        refine (step_two (xs := []) k 2 (sdF.getD k 0) _ 0 a b sb (side_c k hk) (side_call k hk) hk rfl ha hb s (nxt_of hhS (by omega) hhr rfl (by omega) (by omega) rfl (hcur 4 _ rfl) (hcur 5 _ rfl)) (by simp) rfl (by omega) hsr ((hsS.cell k).trans (sdCs_at hk))).mono ?_
        rintro e w' ⟨he, h⟩
        unfold TwoPost at h
        rw [h2] at h
        obtain ⟨A', c', h⟩ := h
        exact ⟨he, A', c', h⟩
    · rintro e w' ⟨he, hc, h4, h11, hb9⟩
      refine ⟨⟨he, (hc 0).trans ?_⟩, h4, h11, hb9⟩
      exact (hvS.cell 0).trans (intZ_at (by omega))
end
end Vm
end Go.Proofs.YtoiibphbogpojaaDoor
