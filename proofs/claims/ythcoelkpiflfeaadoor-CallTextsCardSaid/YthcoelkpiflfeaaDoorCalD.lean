/- A call, trim, by the program. -/
import Derived.Test.YthcoelkpiflfeaaDoorRows
import Derived.Test.YthcoelkpiflfeaaDoorCalC
import Derived.Test.YthcoelkpiflfeaaDoorGrpA
namespace Go.Proofs.YthcoelkpiflfeaaDoor
open Go Go.RowKit Go.Lib Go.Proofs.YthcoelkpiflfeaaDoor.Grp
set_option linter.unusedVariables false
set_option linter.unusedSimpArgs false
namespace Cal
theorem int_infoK : (Tryd.prog.info? 3).map (fun i => (i.zero, i.size, i.bytes)) = some (some (.int .i64 0), 1, 8) := by kernel_rfl
def zeroC : Cl := ⟨0, 0, 0, 0, 0, 0, 0, 0, [], 0, 0⟩
def setFld (o : Cl) (f n : Int) : Cl :=
  if f = 0 then { o with co := n } else if f = 1 then { o with pe := n } else if f = 2 then { o with tg := n } else if f = 3 then { o with va := n } else if f = 4 then { o with sz := n } else if f = 5 then { o with ro := n } else if f = 6 then { o with op := n } else if f = 8 then { o with cl := n } else { o with ky := n }
/-- A turn of the loop over fields. -/
def stF (c o : Cl) (f : Int) : Cl := if f = 7 then { o with k := c.k, rq := c.rq } else setFld { o with k := c.k } f (numF c f)
theorem setFld_rq (o : Cl) (f n : Int) : (setFld o f n).rq = o.rq := by
  unfold setFld
  repeat' split
  all_goals rfl
theorem setFld_A (o : Cl) (f n : Int) (hf : plainF f) (rb : Option Addr) (rd : Nat) : (o.A rb rd).setIfInBounds (posF f) (valF f n) = (setFld o f n).A rb rd := by
  rcases hf with rfl | rfl | rfl | rfl | rfl | rfl | rfl | rfl | rfl <;> rfl
theorem used_mem {k f : Int} (h : f ∈ usedL k) : plainF f ∨ f = 7 := by
  unfold usedL at h
  unfold plainF
  repeat' split at h
  all_goals simp at h
  all_goals omega
theorem used_fold (c : Cl) : (usedL c.k).foldl (stF c) zeroC = trimC c := by
  obtain ⟨k, co, pe, tg, va, sz, ro, op, rq, cl, ky⟩ := c
  show (usedL k).foldl _ _ = _
  by_cases h1 : k = 1
  · subst h1; rfl
  by_cases h2 : k = 2
  · subst h2; rfl
  by_cases h3 : k = 3
  · subst h3; rfl
  by_cases h4 : k = 4
  · subst h4; rfl
  by_cases h5 : k = 5
  · subst h5; rfl
  by_cases h6 : k = 6
  · subst h6; rfl
  by_cases h7 : k = 7
  · subst h7; rfl
  by_cases h8 : k = 8
  · subst h8; rfl
  by_cases h9 : k = 9
  · subst h9; rfl
  by_cases h10 : k = 10
  · subst h10; rfl
  by_cases h11 : k = 11
  · subst h11; rfl
  by_cases h12 : k = 12
  · subst h12; rfl
  by_cases h13 : k = 13
  · subst h13; rfl
  by_cases h14 : k = 14
  · subst h14; rfl
  by_cases h15 : k = 15
  · subst h15; rfl
  by_cases h16 : k = 16
  · subst h16; rfl
  by_cases h17 : k = 17
  · subst h17; rfl
  by_cases h18 : k = 18
  · subst h18; rfl
  by_cases h19 : k = 19
  · subst h19; rfl
  by_cases h20 : k = 20
  · subst h20; rfl
  by_cases h21 : k = 21
  · subst h21; rfl
  by_cases h22 : k = 22
  · subst h22; rfl
  have e : usedL k = [] := by
    unfold usedL
    rw [if_neg (by omega), if_neg (by omega), if_neg (by omega), if_neg (by omega), if_neg (by omega), if_neg (by omega), if_neg (by omega), if_neg (by omega)]
  unfold trimC hasF
  simp only [e]
  rfl
theorem used_len (k : Int) : (usedL k).length ≤ 5 := by
  unfold usedL
  repeat' split
  all_goals decide
/-- What is trim so far. -/
structure TrSt (w wr : World) (Bo : Nat) (c o : Cl) (ra : Option Addr) (rc : Nat) (rb : Option Addr) (rd : Nat) : Prop where
  cbx : Blk wr w.heap.size 24 (c.A ra rc)
  res : Blk wr (w.heap.size + 1) 24 (zeroC.A none 0)
  box : Blk wr (w.heap.size + 2) 24 (o.A rb rd)
  own : wr.ownsRow Bo 3 1 (.slice rb o.rq.length rd) o.rq.length (i64s o.rq)
  bl : Below w.heap.size w wr
  lo : w.heap.size + 3 ≤ Bo
  le : Bo ≤ wr.heap.size
section
variable {w wr w1 : World} {Bo : Nat} {c o : Cl} {ra : Option Addr} {rc : Nat} {rb : Option Addr} {rd : Nat}
theorem own_set_farK {w : World} {B size n : Nat} {e : TypeId} {v : Value} {xs : List Value} (h : w.ownsRow B e size v n xs) {p : Addr} (hp : p.block < B) (u : Value) : (w.setCell p u).ownsRow B e size v n xs := by
  refine ⟨h.1, h.2.imp id ?_⟩
  rintro ⟨g, cap, cur, rfl, hge, hh, q⟩
  have hne : g ≠ p.block := fun e => by omega
  exact ⟨g, cap, cur, rfl, hge, (Below.heap_setCell w p u g hne).trans hh, q⟩
theorem form_ofK {w : World} {B : Nat} {e : TypeId} {size n : Nat} {v : Value} {xs : List Value} (h : w.ownsRow B e size v n xs) : ∃ A c, v = .slice A n c := by
  rcases h.2 with ⟨rfl, rfl⟩ | ⟨g, cap, cur, rfl, _⟩
  · exact ⟨none, 0, rfl⟩
  · exact ⟨_, _, rfl⟩
theorem TrSt.below (s : TrSt w wr Bo c o ra rc rb rd) (h : Below wr.heap.size wr w1) : TrSt w w1 Bo c o ra rc rb rd :=
  ⟨s.cbx.below h s.cbx.lt, s.res.below h s.res.lt, s.box.below h s.box.lt, ⟨s.own.1, s.own.2.imp id (by
    rintro ⟨g, cap, cur, h0, hge, hh, q⟩
    exact ⟨g, cap, cur, h0, hge, (h.block g (Array.getElem?_eq_some_iff.1 hh).1).trans hh, q⟩)⟩, s.bl.trans (h.mono s.bl.size), s.lo, Nat.le_trans s.le h.size⟩
/-- A cell of the box is written over. -/
theorem TrSt.put (s : TrSt w wr Bo c o ra rc rb rd) (p : Nat) (v : Value) {o' : Cl} (ho : (o.A rb rd).setIfInBounds p v = o'.A rb rd) (hr : o'.rq = o.rq) : TrSt w (wr.setCell ⟨w.heap.size + 2, p, none⟩ v) Bo c o' ra rc rb rd :=
  ⟨s.cbx.far (p := ⟨w.heap.size + 2, p, none⟩) (by show w.heap.size ≠ w.heap.size + 2; omega) v, s.res.far (p := ⟨w.heap.size + 2, p, none⟩) (by show w.heap.size + 1 ≠ w.heap.size + 2; omega) v, by rw [← ho]; exact s.box.set_ p v,
    by rw [hr]; exact own_set_farK (p := ⟨w.heap.size + 2, p, none⟩) s.own (by show w.heap.size + 2 < Bo; have := s.lo; omega) v, s.bl.setCell (p := ⟨w.heap.size + 2, p, none⟩) (by show w.heap.size ≤ w.heap.size + 2; omega) v, s.lo, by simpa [World.setCell] using s.le⟩
set_option maxRecDepth 100000 in
/-- The requests are taken over. -/
theorem TrSt.reqs (s : TrSt w wr Bo c o ra rc rb rd) (hrow : NRow wr ra c.rq) (hl : c.rq.length ≤ 100000) :
    ∃ A1 c1 w11, (Builtin.append_ #[22, 22] 22 #[.slice none 0 0, .slice ra c.rq.length rc]).run Tryd.prog wr = .ok (.slice A1 c.rq.length c1) w11 ∧
    w11.cell? ⟨w.heap.size + 2, 8, none⟩ = some (.slice rb o.rq.length rd) ∧ w11.frozen? ⟨w.heap.size + 2, 8, none⟩ = false ∧ Hid (wr.grownBy w11 none) ∧ Hid (TrSt w (w11.setCell ⟨w.heap.size + 2, 8, none⟩ (.slice A1 c.rq.length c1)) Bo c { o with rq := c.rq } ra rc A1 c1) := by
  obtain ⟨i0, hi0, hz0', hz1, hz2⟩ := info_parts int_infoK
  have hrd : Reads wr wr.heap.size 1 ra c.rq.length (i64s c.rq) := ⟨by rw [i64s_len, Nat.mul_one], fun h0 => by
    obtain ⟨a, rfl, ha, hc⟩ := hrow h0
    refine ⟨a, rfl, ha, fun j u hu => ?_⟩
    have hj : j < c.rq.length := by have := (List.getElem?_eq_some_iff.1 hu).1; rwa [i64s_len] at this
    rw [i64s_at hj] at hu
    injection hu with hu
    rw [← hu]
    exact hc j hj⟩
  obtain ⟨v11, w11, hrun, hown, hk11, _⟩ := run_append_any (P := Tryd.prog) wr Bo 22 22 3 i0 _ 1 8 Tryd.underlying22 hi0 hz0' hz1 hz2 (by rfl) (by omega) (.slice none 0 0) 0 [] ⟨rfl, .inl ⟨rfl, rfl⟩⟩ _ ra c.rq.length rc _ hrd (by intro u hu; unfold i64s at hu; obtain ⟨z, _, rfl⟩ := List.mem_map.1 hu; rfl) (by unfold maxLen; omega) (by omega) s.le
  rw [Nat.zero_add, List.nil_append] at hown
  obtain ⟨A1, c1, rfl⟩ := form_ofK hown
  have hk11 : wr.grownBy w11 none := hk11
  have kp : ∀ j, j < wr.heap.size → w11.heap[j]? = wr.heap[j]? := fun j h1 => hk11.block j h1 (by simp)
  have hsz := s.lo
  have hle := s.le
  have bx : Blk w11 (w.heap.size + 2) 24 (o.A rb rd) := (kp _ (by omega)).trans s.box
  have cb : Blk w11 w.heap.size 24 (c.A ra rc) := (kp _ (by omega)).trans s.cbx
  have rs : Blk w11 (w.heap.size + 1) 24 (zeroC.A none 0) := (kp _ (by omega)).trans s.res
  have bl : Below w.heap.size w w11 := s.bl.grown hk11 s.bl.size (fun g h => by cases h)
  refine ⟨A1, c1, w11, hrun, bx.cell 8, bx.frozen 8, hide hk11, hide ⟨cb.far (p := ⟨w.heap.size + 2, 8, none⟩) (by show w.heap.size ≠ w.heap.size + 2; omega) _, rs.far (p := ⟨w.heap.size + 2, 8, none⟩) (by show w.heap.size + 1 ≠ w.heap.size + 2; omega) _, bx.set_ 8 _, own_set_farK (p := ⟨w.heap.size + 2, 8, none⟩) hown (by show w.heap.size + 2 < Bo; omega) _, bl.setCell (p := ⟨w.heap.size + 2, 8, none⟩) (by show w.heap.size ≤ w.heap.size + 2; omega) _, s.lo, ?_⟩⟩
  simpa [World.setCell] using Nat.le_trans s.le hk11.size
end
end Cal
end Go.Proofs.YthcoelkpiflfeaaDoor
