/- The groups of a split, as they lie while they are put together. -/
import Derived.Test.YtgiibknfkphkgaaDoorRows
import Derived.Test.YtgiibknfkphkgaaDoorSpG
import Derived.Test.YtgiibknfkphkgaaDoorSpC
namespace Go.Proofs.YtgiibknfkphkgaaDoor
open Go Go.RowKit
set_option linter.unusedVariables false
set_option linter.unusedSimpArgs false
namespace Sp
def ints (l : List Int) : List Value := l.map (Value.int .i64)
theorem ints_app (a b : List Int) : ints (a ++ b) = ints a ++ ints b := by simp [ints]
/-- A group: its color, its ranks and where they lie. -/
structure Gw where
  c : Int
  A : Option Addr
  cap : Nat
  rs : List Int
instance : Inhabited Gw := ⟨⟨0, none, 0, []⟩⟩
def Gw.v (x : Gw) : Value := .slice x.A x.rs.length x.cap
def Gw.p (x : Gw) : Int × List Int := (x.c, x.rs)
section
variable (K : Int → ByteArray)
def gwC (x : Gw) : List Value := [.string (K x.c), x.v]
def gwCs (l : List Gw) : List Value := l.flatMap (gwC K)
theorem gwCs_app (a b : List Gw) : gwCs K (a ++ b) = gwCs K a ++ gwCs K b := by simp [gwCs]
theorem gwCs_len : ∀ (l : List Gw), (gwCs K l).length = l.length * 2
  | [] => rfl
  | t :: l => by
    rw [show gwCs K (t :: l) = gwC K t ++ gwCs K l from rfl, List.length_append, gwCs_len l]
    show 2 + _ = (l.length + 1) * 2
    omega
theorem gwCs_at : ∀ (l : List Gw) (i : Nat) (hi : i < l.length), (gwCs K l)[i * 2]? = some (.string (K l[i].c)) ∧ (gwCs K l)[i * 2 + 1]? = some l[i].v
  | t :: l, 0, _ => ⟨rfl, rfl⟩
  | t :: l, i + 1, hi => by
    have ih := gwCs_at l i (by simpa using hi)
    have e : gwCs K (t :: l) = .string (K t.c) :: t.v :: gwCs K l := rfl
    rw [e, show (i + 1) * 2 = i * 2 + 1 + 1 by omega]
    simpa using ih
theorem gwCs_set : ∀ (l : List Gw) (i : Nat) (hi : i < l.length) (x : Gw), x.c = l[i].c → (gwCs K l).set (i * 2 + 1) x.v = gwCs K (l.set i x)
  | t :: l, 0, _, x, hx => by
    have hx : x.c = t.c := hx
    show Value.string (K t.c) :: x.v :: gwCs K l = Value.string (K x.c) :: x.v :: gwCs K l
    rw [hx]
  | t :: l, i + 1, hi, x, hx => by
    have ih := gwCs_set l i (by simpa using hi) x (by simpa using hx)
    have e : gwCs K (t :: l) = .string (K t.c) :: t.v :: gwCs K l := rfl
    rw [e, show (i + 1) * 2 + 1 = (i * 2 + 1) + 1 + 1 by omega, List.set_cons_succ, List.set_cons_succ, ih]
    rfl
structure OutA (w : World) (B : Nat) (O : Option Addr) (oc : Nat) (gs : List Gw) : Prop where
  row : w.ownsRow B 24 2 (.slice O gs.length oc) gs.length (gwCs K gs)
  rs : ∀ i (h : i < gs.length), w.ownsRow B 3 1 gs[i].v gs[i].rs.length (ints gs[i].rs)
  apart : ∀ i j (hi : i < gs.length) (hj : j < gs.length), i ≠ j → ∀ g, gs[i].v.ownBlock = some g → gs[j].v.ownBlock ≠ some g
variable {K}
theorem OutA.nil (w : World) (B : Nat) : OutA K w B none 0 [] := ⟨⟨rfl, .inl ⟨rfl, rfl⟩⟩, fun i h => absurd h (Nat.not_lt_zero i), fun i j hi => absurd hi (Nat.not_lt_zero i)⟩
theorem OutA.below {w w' : World} {B oc : Nat} {O : Option Addr} {gs : List Gw} (h : OutA K w B O oc gs) (hb : Below w.heap.size w w') : OutA K w' B O oc gs := ⟨own_belowR h.row hb, fun i hi => own_belowR (h.rs i hi) hb, h.apart⟩
/-- A new group behind the others. -/
theorem OutA.push {w w9 : World} {B oc c9 : Nat} {O a9 : Option Addr} {gs : List Gw} {c : Int} (h : OutA K w B O oc gs) (hg : w.grownBy w9 (Value.slice O gs.length oc).ownBlock) (ho : w9.ownsRow B 24 2 (.slice a9 (gs.length + 1) c9) (gs.length + 1) (gwCs K gs ++ [.string (K c), .slice none 0 0])) :
    OutA K w9 B a9 c9 (gs ++ [⟨c, none, 0, []⟩]) := by
  have kk : KeepsBut [24] w w9 := grown_keeps h.row hg
  refine ⟨by rw [List.length_append, List.length_singleton, gwCs_app]; exact ho, fun i hi => ?_, fun i j hi hj hne g e => ?_⟩
  · by_cases hl : i < gs.length
    · rw [List.getElem_append_left hl]
      exact KeepsBut.own kk (h.rs i hl) (by decide)
    · rw [List.getElem_append_right (by omega)]
      have : i - gs.length = 0 := by rw [List.length_append, List.length_singleton] at hi; omega
      simp only [this, List.getElem_cons_zero]
      exact ⟨rfl, .inl ⟨rfl, rfl⟩⟩
  · by_cases hl : i < gs.length
    · rw [List.getElem_append_left hl] at e
      by_cases hl2 : j < gs.length
      · rw [List.getElem_append_left hl2]
        exact h.apart i j hl hl2 hne g e
      · rw [List.getElem_append_right (by omega)]
        have : j - gs.length = 0 := by rw [List.length_append, List.length_singleton] at hj; omega
        simp only [this, List.getElem_cons_zero]
        intro h9
        cases h9
    · rw [List.getElem_append_right (by omega)] at e
      have : i - gs.length = 0 := by rw [List.length_append, List.length_singleton] at hi; omega
      simp only [this, List.getElem_cons_zero] at e
      cases e
/-- One of the groups gets a rank. -/
theorem OutA.add {w w9 : World} {B oc c9 k o : Nat} {a9 : Option Addr} {gs : List Gw} {r : Int} (h : OutA K w B (some ⟨o, 0, none⟩) oc gs) (hk : k < gs.length) (hg : w.grownBy w9 gs[k].v.ownBlock)
    (hown : w9.ownsRow B 3 1 (.slice a9 (gs[k].rs.length + 1) c9) (gs[k].rs.length + 1) (ints gs[k].rs ++ [.int .i64 r]))
    (hob : ∀ g, (Value.slice a9 (gs[k].rs.length + 1) c9).ownBlock = some g → gs[k].v.ownBlock = some g ∨ w.heap.size ≤ g) :
    OutA K (w9.setCell ⟨o, k * 2 + 1, none⟩ (.slice a9 (gs[k].rs.length + 1) c9)) B (some ⟨o, 0, none⟩) oc (gs.set k ⟨gs[k].c, a9, c9, gs[k].rs ++ [r]⟩) := by
  have kk : KeepsBut [3] w w9 := grown_keeps (h.rs k hk) hg
  have row9 := KeepsBut.own kk h.row (by decide)
  obtain ⟨cso, hbo⟩ := own_type row9
  have k2 := keeps_set (p := ⟨o, k * 2 + 1, none⟩) hbo (.slice a9 (gs[k].rs.length + 1) c9)
  have vnew : (⟨gs[k].c, a9, c9, gs[k].rs ++ [r]⟩ : Gw).v = .slice a9 (gs[k].rs.length + 1) c9 := by
    unfold Gw.v
    rw [List.length_append, List.length_singleton]
  have rowlt : ∀ m (hm : m < gs.length), ∀ g, gs[m].v.ownBlock = some g → g < w.heap.size := fun m hm g e => (own_block (h.rs m hm) e).2.1
  have rows9 : ∀ m (hm : m < gs.length), k ≠ m → w9.ownsRow B 3 1 gs[m].v gs[m].rs.length (ints gs[m].rs) := fun m hm hne => by
    have hr := h.rs m hm
    refine ⟨hr.1, hr.2.imp id ?_⟩
    rintro ⟨g, cap, cur, hv, hge, hh, rr⟩
    refine ⟨g, cap, cur, hv, hge, ?_, rr⟩
    rw [hg.block g (Array.getElem?_eq_some_iff.1 hh).1 (fun e => h.apart k m hk hm hne g e.symm (by rw [hv]; rfl))]
    exact hh
  refine ⟨?_, fun m hm => ?_, fun m m' hm hm' hne g hgm => ?_⟩
  · rw [List.length_set, ← gwCs_set K gs k hk ⟨gs[k].c, a9, c9, gs[k].rs ++ [r]⟩ rfl, vnew]
    exact own_set row9 _
  · rw [List.length_set] at hm
    rw [List.getElem_set]
    by_cases e : k = m
    · rw [if_pos e, vnew]
      show World.ownsRow _ B 3 1 _ (gs[k].rs ++ [r]).length (ints (gs[k].rs ++ [r]))
      rw [List.length_append, List.length_singleton, ints_app]
      exact KeepsBut.own k2 hown (by decide)
    · rw [if_neg e]
      exact KeepsBut.own k2 (rows9 m hm e) (by decide)
  · rw [List.length_set] at hm hm'
    rw [List.getElem_set] at hgm ⊢
    by_cases e : k = m
    · rw [if_pos e, vnew] at hgm
      have e' : k ≠ m' := fun e' => hne (e ▸ e')
      rw [if_neg e']
      intro h9
      rcases hob _ hgm with h8 | h8
      · exact h.apart k m' hk hm' e' g h8 h9
      · have := rowlt m' hm' g h9
        omega
    · rw [if_neg e] at hgm
      by_cases e' : k = m'
      · rw [if_pos e', vnew]
        intro h9
        rcases hob _ h9 with h8 | h8
        · exact h.apart m k hm hk (fun h => e h.symm) g hgm h8
        · have := rowlt m hm g hgm
          omega
      · rw [if_neg e']
        exact h.apart m m' hm hm' hne g hgm
end
/-- The groups of a sorted row. -/
def grpS (gs : List (Int × List Int)) (x : Ak) : List (Int × List Int) := match gs.getLast? with
  | some (c, rs) => if c = x.c then gs.dropLast ++ [(c, rs ++ [x.r])] else gs ++ [(x.c, [x.r])]
  | none => [(x.c, [x.r])]
def grpN (L : List Ak) (i : Nat) : List (Int × List Int) := (L.take i).foldl grpS []
theorem grpN_succ {L : List Ak} {i : Nat} (h : i < L.length) : grpN L (i + 1) = grpS (grpN L i) L[i] := by
  unfold grpN
  rw [List.take_succ_eq_append_getElem h, List.foldl_append]
  rfl
end Sp
end Go.Proofs.YtgiibknfkphkgaaDoor
