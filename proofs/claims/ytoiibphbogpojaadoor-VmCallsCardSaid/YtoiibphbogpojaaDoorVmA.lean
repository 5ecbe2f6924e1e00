/- A rank as it lies; what is put on its stack, and taken off. -/
import Derived.Test.YtoiibphbogpojaaDoorRows
import Derived.Test.YtoiibphbogpojaaDoorCodD
import Derived.Test.YtoiibphbogpojaaDoorOwn
import Derived.Deep.AppendLies
import Derived.Lib.AppendZeros
namespace Go.Proofs.YtoiibphbogpojaaDoor
open Go Go.RowKit Go.Proofs.YtoiibphbogpojaaDoor.Cod
set_option linter.unusedVariables false
set_option linter.unusedSimpArgs false
namespace Vm
/-- A rank: its cells. -/
structure Rk where
  cd : Value
  vr : Value
  ar : Value
  ba : Value
  sd : Value
  nu : Value
  sz : Value
  is_ : Value
  ft : Value
  pl : Value
  sk : Value
  vs : Value
  ce : Value
  l0 : Value
  l1 : Value
  l2 : Value
  l3 : Value
  l4 : Value
  l5 : Value
  l6 : Value
  l7 : Value
  c0 : Value
  c1 : Value
  c2 : Value
  c3 : Value
  c4 : Value
  c5 : Value
  c6 : Value
  c7 : Value
  c8 : Value
  c9 : Value
  c10 : Value
def rkA (R : Rk) : Array Value := #[R.cd, R.vr, R.ar, R.ba, R.sd, R.nu, R.sz, R.is_, R.ft, R.pl, R.sk, R.vs, R.ce, R.l0, R.l1, R.l2, R.l3, R.l4, R.l5, R.l6, R.l7, R.c0, R.c1, R.c2, R.c3, R.c4, R.c5, R.c6, R.c7, R.c8, R.c9, R.c10]
def i64s (l : List Int) : List Value := l.map fun z => .int .i64 z
theorem i64s_app (a b : List Int) : i64s (a ++ b) = i64s a ++ i64s b := by simp [i64s]
/-- A rank whose stack is xs: it lies at block r; all else below B is as it was in w0. -/
structure RSt (W w0 w : World) (B r : Nat) (R : Rk) (A : Option Addr) (c : Nat) (xs : List Int) : Prop where
  bk : Blk w r 55 (rkA R)
  sk : R.sk = .slice A xs.length c
  own : w.ownsRow B 2 1 (.slice A xs.length c) xs.length (i64s xs)
  kp : ∀ j, j < B → j ≠ r → w.heap[j]? = w0.heap[j]?
  le : B ≤ w.heap.size
  rb : r < B
  wr : W.heap.size ≤ r
  bl : Below W.heap.size W w
theorem i64_info : (Tryd.prog.info? 2).map (fun i => (i.zero, i.size, i.bytes)) = some (some (.int .i64 0), 1, 8) := by kernel_rfl
theorem form_of {w : World} {B : Nat} {e : TypeId} {size n : Nat} {v : Value} {xs : List Value} (h : w.ownsRow B e size v n xs) : ∃ A c, v = .slice A n c := by
  rcases h.2 with ⟨rfl, rfl⟩ | ⟨g, cap, cur, rfl, _⟩
  · exact ⟨none, 0, rfl⟩
  · exact ⟨_, _, rfl⟩
section
variable {W w0 w : World} {B r : Nat} {R : Rk} {A : Option Addr} {c : Nat} {xs : List Int}
theorem own_set_far {w : World} {B size n : Nat} {e : TypeId} {v : Value} {xs : List Value} (h : w.ownsRow B e size v n xs) {p : Addr} (hp : p.block < B) (u : Value) : (w.setCell p u).ownsRow B e size v n xs := by
  refine ⟨h.1, h.2.imp id ?_⟩
  rintro ⟨g, cap, cur, rfl, hge, hh, q⟩
  have hne : g ≠ p.block := fun e => by omega
  exact ⟨g, cap, cur, rfl, hge, (Below.heap_setCell w p u g hne).trans hh, q⟩
/-- One of a rank's cells written over, but the stack's. -/
theorem RSt.set (s : RSt W w0 w B r R A c xs) (k : Nat) (u : Value) {R' : Rk} (hR : (rkA R).setIfInBounds k u = rkA R') (hk : R'.sk = R.sk) : RSt W w0 (w.setCell ⟨r, k, none⟩ u) B r R' A c xs :=
  ⟨by rw [← hR]; exact s.bk.set_ k u, by rw [hk]; exact s.sk, own_set_far (p := ⟨r, k, none⟩) s.own s.rb u, fun j h1 h2 => (Below.heap_setCell w ⟨r, k, none⟩ u j h2).trans (s.kp j h1 h2), by simpa [World.setCell] using s.le, s.rb, s.wr, s.bl.setCell (p := ⟨r, k, none⟩) s.wr u⟩
set_option maxRecDepth 100000 in
set_option maxHeartbeats 2000000 in
theorem push_c (n : Int) (s : RSt W w0 w B r R A c xs) (hl : xs.length ≤ 100000) :
    Calls Tryd.prog 37 #[.pointer (some ⟨r, 0, none⟩), .int .i64 n] w fun e w' => e = .returned (.tuple #[]) ∧ ∃ A' c', RSt W w0 w' B r { R with sk := .slice A' (xs.length + 1) c' } A' c' (xs ++ [n]) := by
  have ba := (Below.refl w.heap.size w).alloc (Nat.le_refl _) (.cells #[.int .i64 n] 2)
  have kb := Blk.new w 2 #[.int .i64 n]
  have hs1 : (w.alloc (.cells #[.int .i64 n] 2)).heap.size = w.heap.size + 1 := by simp
  have ow : (w.alloc (.cells #[.int .i64 n] 2)).ownsRow B 2 1 (.slice A xs.length c) xs.length (i64s xs) := by
    refine ⟨s.own.1, s.own.2.imp id ?_⟩
    rintro ⟨g, cap, cur, h0, hge, hh, q⟩
    exact ⟨g, cap, cur, h0, hge, (ba.block g (Array.getElem?_eq_some_iff.1 hh).1).trans hh, q⟩
  obtain ⟨i0, hi0, hz0', hz1, hz2⟩ := info_parts i64_info
  have hrd : Reads (w.alloc (.cells #[.int .i64 n] 2)) (w.alloc (.cells #[.int .i64 n] 2)).heap.size 1 (some ⟨w.heap.size, 0, none⟩) 1 [.int .i64 n] := ⟨rfl, fun _ => ⟨_, rfl, kb.lt, fun j u hu => by rw [add_lit, kb.cell]; simpa using hu⟩⟩
  obtain ⟨v11, w11, hrun, hown, hk11, _⟩ := run_append_any (P := Tryd.prog) _ B 42 42 2 i0 _ 1 8 Tryd.underlying42 hi0 hz0' hz1 hz2 (by rfl) (by omega) _ _ _ ow _ (some ⟨w.heap.size, 0, none⟩) 1 1 _ hrd (by intro u hu; rw [List.mem_singleton.1 hu]; rfl) (by unfold maxLen; omega) (by omega) (by have := s.le; omega)
  obtain ⟨A1, c1, rfl⟩ := form_of hown
  have hob : ∀ g, (Value.slice A xs.length c).ownBlock = some g → B ≤ g := fun g h => (own_block s.own h).1
  have bk1 : Blk w11 r 55 (rkA R) := by
    have h0 : r < (w.alloc (.cells #[.int .i64 n] 2)).heap.size := by have := s.bk.lt; omega
    exact (hk11.block r h0 (fun e => by have := hob r e.symm; have := s.rb; omega)).trans ((ba.block r s.bk.lt).trans s.bk)
  have kp1 : ∀ j, j < B → j ≠ r → w11.heap[j]? = w0.heap[j]? := fun j h1 h2 => by
    have hj : j < w.heap.size := Nat.lt_of_lt_of_le h1 s.le
    exact (hk11.block j (by omega) (fun e => by have := hob j e.symm; omega)).trans ((ba.block j hj).trans (s.kp j h1 h2))
  have le1 : B ≤ w11.heap.size := Nat.le_trans s.le (Nat.le_trans ba.size hk11.size)
  have bl1 : Below W.heap.size W w11 := ((s.bl.trans (ba.mono s.bl.size)).grown hk11 (by have := s.bl.size; omega) (fun g h => by have := hob g h; have := s.rb; have := s.wr; omega))
  have h1 : R.sk = .slice A xs.length c := s.sk
  have y0 : w.cell? ⟨r, 10, none⟩ = some (.slice A xs.length c) := by rw [s.bk.cell 10, ← h1]; rfl
  have y1 : w11.cell? ⟨r, 10, none⟩ = some (.slice A xs.length c) := by rw [bk1.cell 10, ← h1]; rfl
  have f1 := bk1.frozen 10
  have hrl := s.bk.lt
  have own1 : w11.ownsRow B 2 1 (.slice A1 (xs.length + 1) c1) (xs.length + 1) (i64s (xs ++ [n])) := by rw [i64s_app]; exact hown
  have FIN : Hid (RSt W w0 (w11.setCell ⟨r, 10, none⟩ (.slice A1 (xs.length + 1) c1)) B r { R with sk := .slice A1 (xs.length + 1) c1 } A1 c1 (xs ++ [n])) := hide (by
    have hlen : (xs ++ [n]).length = xs.length + 1 := by simp
    exact ⟨bk1.set_ 10 _, by rw [hlen], by rw [hlen]; exact own_set_far (p := ⟨r, 10, none⟩) own1 s.rb _, fun j h1 h2 => (Below.heap_setCell w11 ⟨r, 10, none⟩ _ j h2).trans (kp1 j h1 h2), by simpa [World.setCell] using le1, s.rb, s.wr, bl1.setCell (p := ⟨r, 10, none⟩) s.wr _⟩)
  have RUN := hide hrun
  clear ba kb hs1 ow hrd hrun hown hk11 hob bk1 kp1 le1 bl1 h1 own1 s hi0 hz0' hz1 hz2
  go_enter Tryd.func37, Tryd.ntmps37
  go_wp2_with (at_builtin; refine Lib.wpList_append_run _ rfl _ _ 42 42 rfl _ _ rfl rfl _ _ RUN.out ?_)
  go_end0
  exact ⟨rfl, A1, c1, FIN.out⟩
set_option maxRecDepth 100000 in
set_option maxHeartbeats 2000000 in
theorem pop_c (n : Int) (s : RSt W w0 w B r R A c (xs ++ [n])) (hl : xs.length ≤ 100000) :
    Calls Tryd.prog 35 #[.pointer (some ⟨r, 0, none⟩)] w fun e w' => e = .returned (.int .i64 n) ∧ RSt W w0 w' B r { R with sk := .slice A xs.length c } A c xs ∧ ∃ u, w' = w.setCell ⟨r, 10, none⟩ u := by
  have hlen : (xs ++ [n]).length = xs.length + 1 := by simp
  have so := s.own
  have sk := s.sk
  rw [hlen] at so sk
  obtain ⟨g, hA, hBg, _, ⟨cur, hbg⟩, hfz, hnc, hce⟩ := own_cell so (by omega)
  subst hA
  have cx : w.cell? ⟨g, xs.length, none⟩ = some (.int .i64 n) := hce xs.length _ (by unfold i64s; rw [List.getElem?_map, List.getElem?_append_right (Nat.le_refl _)]; simp)
  have y0 : w.cell? ⟨r, 10, none⟩ = some (.slice (some ⟨g, 0, none⟩) (xs.length + 1) c) := by rw [s.bk.cell 10, ← sk]; rfl
  have f1 := s.bk.frozen 10
  have oc := own_cut so (Nat.le_succ xs.length)
  rw [show (i64s (xs ++ [n])).take (xs.length * 1) = i64s xs by rw [i64s_app, Nat.mul_one, List.take_left' (by unfold i64s; simp)]] at oc
  have FIN : Hid (RSt W w0 (w.setCell ⟨r, 10, none⟩ (.slice (some ⟨g, 0, none⟩) xs.length c)) B r { R with sk := .slice (some ⟨g, 0, none⟩) xs.length c } (some ⟨g, 0, none⟩) c xs) := hide ⟨s.bk.set_ 10 _, rfl, own_set_far (p := ⟨r, 10, none⟩) oc s.rb _, fun j h1 h2 => (Below.heap_setCell w ⟨r, 10, none⟩ _ j h2).trans (s.kp j h1 h2), by simpa [World.setCell] using s.le, s.rb, s.wr, s.bl.setCell (p := ⟨r, 10, none⟩) s.wr _⟩
  obtain ⟨m, hm⟩ : ∃ m, xs.length = m := ⟨_, rfl⟩
  rw [hm] at cx y0 hnc hl
  rw [hm] at FIN
  have s1 : IntKind.i64.wrap ((m : Int) + 1 - 1) = (m : Int) := by rw [IntKind.wrap_i64]; omega
  have s2 : (m : Int) + 1 - 1 = (m : Int) := by omega
  have g1 : (m : Int) < (m : Int) + 1 := by omega
  have g2 : (m : Int) ≤ (m : Int) + 1 := by omega
  have g3 : (m : Int) ≤ (c : Int) := by omega
  have g4 : m ≤ c := by omega
  clear s so sk hlen hBg hbg hfz hce oc
  rw [hm]
  go_enter Tryd.func35, Tryd.ntmps35
  go_wp2_with fail
  go_ret
  exact ⟨rfl, FIN.out, _, rfl⟩
end
end Vm
end Go.Proofs.YtoiibphbogpojaaDoor
