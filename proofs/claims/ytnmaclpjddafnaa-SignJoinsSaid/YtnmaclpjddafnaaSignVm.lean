/- Joins and puttings-in, in one form each, of the program and of the reference; rows that are written over. -/
import Derived.Test.YtnmaclpjddafnaaRows
import Derived.Test.YtnmaclpjddafnaaSignVl
import Derived.Test.YtnmaclpjddafnaaSignVh
import Derived.Test.YtnmaclpjddafnaaSignPu
import Derived.Test.YtnmaclpjddafnaaSignSame
namespace Go.Proofs.Ytnmaclpjddafnaa
open Go Go.RowKit Go.Sort Go.Joins Go.ChangeShapes Go.WideShapes Go.Deep
set_option linter.unusedVariables false
set_option linter.unusedSimpArgs false
namespace Jn
def errP (a : List Ch) (x : Ch) : Int := if (putL a x).isNone then 2 else 0
def mmP (a : List Ch) (x : Ch) : List Ch := (putL a x).getD []
def JR (a b l : List Ch) (ej : Int) : Prop := (agL a b = false ∧ l = [] ∧ ej = 2) ∨ (agL a b = true ∧ IsJoin a b l ∧ ej = 0)
theorem JR.ok {a b l : List Ch} {ej : Int} (h : JR a b l ej) : ∀ t ∈ l, t.ok := by
  rcases h with ⟨_, rfl, _⟩ | ⟨_, h, _⟩
  · intro t ht; cases ht
  · exact fun t ht => mayC_ok (((mayL_iff l).1 h.1).1 t ht)
theorem JR.len {a b l : List Ch} {ej : Int} (h : JR a b l ej) : l.length ≤ a.length + b.length := by
  rcases h with ⟨_, rfl, _⟩ | ⟨_, h, _⟩
  · exact Nat.zero_le _
  · exact h.len
theorem mmP_ok (a : List Ch) (x : Ch) : ∀ t ∈ mmP a x, t.ok := by
  unfold mmP
  by_cases h : mayL a = true ∧ mayC x = true ∧ fndL a x = false
  · rw [putL_some h.1 h.2.1 h.2.2]
    exact fun t ht => mayC_ok (((mayL_iff _).1 (put_may h.1 h.2.1 h.2.2)).1 t ht)
  · rw [putL_none h]
    intro t ht; cases ht
theorem mmP_len (a : List Ch) (x : Ch) : (mmP a x).length ≤ a.length + 1 := by
  unfold mmP
  by_cases h : mayL a = true ∧ mayC x = true ∧ fndL a x = false
  · rw [putL_some h.1 h.2.1 h.2.2]
    exact Nat.le_of_eq (put_len a x)
  · rw [putL_none h]
    exact Nat.zero_le _
theorem own_nil (w : World) (B : Nat) : w.ownsRow B 24 5 (.slice none 0 0) ([] : List Ch).length (chs []) := ⟨rfl, .inl ⟨rfl, rfl⟩⟩
theorem Put_bU (A : Option Addr) (cap : Nat) (l : List Ch) (x : Ch) (w : World) (h : CRow w A l) (hl : l.length ≤ 1000) :
    Calls Try.prog 5 #[.slice A l.length cap, x.val] w fun e w' => (∃ v, e = .returned (.tuple #[v, .int .i64 (errP l x)]) ∧ w'.ownsRow w.heap.size 24 5 v (mmP l x).length (chs (mmP l x))) ∧ Below w.heap.size w w' := by
  refine (Put_b A cap l x w h hl).mono ?_
  rintro e w' ⟨⟨hn, rfl⟩ | ⟨hs, v, rfl, ho⟩, hb⟩
  · have e1 : errP l x = 2 := by unfold errP; rw [hn]; rfl
    have e2 : mmP l x = [] := by unfold mmP; rw [hn]; rfl
    rw [e1, e2]
    exact ⟨⟨_, rfl, own_nil _ _⟩, hb⟩
  · have e1 : errP l x = 0 := by unfold errP; rw [hs]; rfl
    have e2 : mmP l x = putR l x := by unfold mmP; rw [hs]; rfl
    rw [e1, e2]
    exact ⟨⟨v, rfl, ho⟩, hb⟩
theorem Put_aU (A : Option Addr) (cap : Nat) (l : List Ch) (x : Ch) (w : World) (h : CRow w A l) (hl : l.length ≤ 1000) :
    Calls Try.prog 7 #[.slice A l.length cap, x.val] w fun e w' => (∃ v, e = .returned (.tuple #[v, .int .i64 (errP l x)]) ∧ w'.ownsRow w.heap.size 24 5 v (mmP l x).length (chs (mmP l x))) ∧ Below w.heap.size w w' := by
  refine (Put_a A cap l x w h hl).mono ?_
  rintro e w' ⟨hp, hb⟩
  refine ⟨?_, hb⟩
  unfold PutR at hp
  unfold errP mmP
  rcases hc : putL l x with _ | m
  · rw [hc] at hp
    exact ⟨_, hp, own_nil _ _⟩
  · rw [hc] at hp
    exact hp
theorem Join_bU (A B : Option Addr) (ca cb : Nat) (a b : List Ch) (w : World) (ha : CRow w A a) (hb : CRow w B b) (hla : a.length ≤ 200) (hlb : b.length ≤ 200) :
    Calls Try.prog 4 #[.slice A a.length ca, .slice B b.length cb] w fun e w' => (∃ l ej V, JR a b l ej ∧ e = .returned (.tuple #[V, .int .i64 ej]) ∧ w'.ownsRow w.heap.size 24 5 V l.length (chs l)) ∧ Below w.heap.size w w' := by
  refine (Join_b A B ca cb a b w ha hb hla hlb).mono ?_
  rintro e w' ⟨⟨hn, rfl⟩ | ⟨hs, l, V, hj, rfl, ho⟩, hb⟩
  · exact ⟨⟨[], 2, _, .inl ⟨hn, rfl, rfl⟩, rfl, own_nil _ _⟩, hb⟩
  · exact ⟨⟨l, 0, V, .inr ⟨hs, hj, rfl⟩, rfl, ho⟩, hb⟩
theorem Join_aU (A B : Option Addr) (ca cb : Nat) (a b l : List Ch) (ej : Int) (w : World) (h : JR a b l ej) (ha : CRow w A a) (hb : CRow w B b) (hla : a.length ≤ 200) (hlb : b.length ≤ 200) :
    Calls Try.prog 6 #[.slice A a.length ca, .slice B b.length cb] w fun e w' => (∃ V c, e = .returned (.tuple #[.slice V l.length c, .int .i64 ej]) ∧ JRow w.heap.size w' V l) ∧ Below w.heap.size w w' := by
  refine (Join_a A B ca cb a b w ha hb (by omega) (by omega)).mono ?_
  rintro e w' ⟨⟨hn, rfl⟩ | ⟨hs, m, V, c, hj, rfl, ho⟩, hb⟩
  · rcases h with ⟨_, rfl, rfl⟩ | ⟨h, _⟩
    · exact ⟨⟨none, 0, rfl, fun h => absurd h (Nat.lt_irrefl 0)⟩, hb⟩
    · rw [hn] at h; cases h
  · rcases h with ⟨h, _⟩ | ⟨_, hl, rfl⟩
    · rw [hs] at h; cases h
    · have e : m = l := may_ext hj.1 hl.1 fun t => by rw [hj.2, hl.2]
      subst e
      exact ⟨⟨V, c, rfl, ho⟩, hb⟩
theorem own_jrow {w : World} {B c : Nat} {V : Option Addr} {l : List Ch} (h : w.ownsRow B 24 5 (.slice V l.length c) l.length (chs l)) : JRow B w V l := fun h0 => by
  obtain ⟨g, rfl, hg, _, ⟨cs, hb⟩, _⟩ := own_cell h h0
  exact ⟨g, rfl, hg, hb.lt, holds_own h h0⟩
/-- The first cells of a row's elements: they are there, and may be written. -/
def Slots (w : World) (g n : Nat) : Prop := ∀ j, j < n → (∃ v, w.cell? ⟨g, j * 5, none⟩ = some v) ∧ w.frozen? ⟨g, j * 5, none⟩ = false
theorem Slots.set_ {w : World} {g n : Nat} (h : Slots w g n) (p : Addr) (u : Value) : Slots (w.setCell p u) g n := fun j hj => by
  obtain ⟨⟨v, hv⟩, hf⟩ := h j hj
  exact ⟨cell?_setCell_some hv, (World.frozen?_setCell _ _ _ _).trans hf⟩
theorem slots_of {w : World} {g : Nat} {l : List Ch} (h : HoldsK chC 5 w g 0 l.toArray) : Slots w g l.length := fun j hj =>
  ⟨⟨_, (hold5 h (i := j) (by simpa using hj)).1⟩, (froz5 h (i := j) (by simpa using hj)).1⟩
/-- What stands while a row is written over: its cells, all else as it was. -/
structure Ks (B : Nat) (w1 wl : World) (V : Option Addr) (n : Nat) : Prop where
  below : Below B w1 wl
  slots : ∀ g, 0 < n → V = some ⟨g, 0, none⟩ → Slots wl g n
  same : ∀ k, (0 < n → ∀ g, V = some ⟨g, 0, none⟩ → k ≠ g) → wl.heap[k]? = w1.heap[k]?
theorem Ks.start {B C : Nat} {w : World} {V : Option Addr} {l : List Ch} (h : JRow C w V l) : Ks B w w V l.length :=
  ⟨Below.refl _ _, fun g h0 e => by
    obtain ⟨g', e', _, _, hh⟩ := h h0
    rw [e] at e'
    injection e' with e'
    injection e' with e'
    subst e'
    exact slots_of hh, fun _ _ => rfl⟩
theorem Ks.step {B g : Nat} {w1 wl : World} {n : Nat} (h : Ks B w1 wl (some ⟨g, 0, none⟩) n) (hB : B ≤ g) (hn : 0 < n) (o : Nat) (u : Value) : Ks B w1 (wl.setCell ⟨g, o, none⟩ u) (some ⟨g, 0, none⟩) n :=
  ⟨h.below.setCell (p := ⟨g, o, none⟩) hB u, fun g' h0 e => by
    injection e with e
    injection e with e
    subst e
    exact (h.slots g h0 rfl).set_ _ _, fun k hk => (Below.heap_setCell wl ⟨g, o, none⟩ u k (hk hn g rfl)).trans (h.same k hk)⟩
theorem crow_kept {w w' : World} {A : Option Addr} {l : List Ch} (h : CRow w A l) (hk : 0 < l.length → ∀ a, A = some a → w'.heap[a.block]? = w.heap[a.block]?) (hs : w.heap.size ≤ w'.heap.size) : CRow w' A l := by
  refine ⟨h.1, fun h0 => ?_⟩
  obtain ⟨a, rfl, ha, hc⟩ := h.2 h0
  have hb := hk h0 a rfl
  have k : ∀ o, w'.cell? ⟨a.block, o, none⟩ = w.cell? ⟨a.block, o, none⟩ := fun o => World.cell?_of_block (w := w) hb
  refine ⟨a, rfl, Nat.lt_of_lt_of_le ha hs, fun i hi => ⟨(hc i hi).1, ?_⟩⟩
  obtain ⟨c0, c1, c2, c3, c4⟩ := (hc i hi).2
  have e : (a.add (i * 5)).block = a.block := block_of_add _ _
  have k0 : w'.cell? (a.add (i * 5)) = w.cell? (a.add (i * 5)) := World.cell?_of_block (w := w) (by rw [e]; exact hb)
  rw [e] at c1 c2 c3 c4
  unfold ChAt
  rw [e]
  exact ⟨k0.trans c0, (k _).trans c1, (k _).trans c2, (k _).trans c3, (k _).trans c4⟩
theorem frozen_of {w w' : World} {a : Addr} (h : w'.heap[a.block]? = w.heap[a.block]?) : w'.frozen? a = w.frozen? a := by
  unfold World.frozen?
  rw [h]
theorem jrow_kept {B : Nat} {w w' : World} {V : Option Addr} {l : List Ch} (h : JRow B w V l) (hk : 0 < l.length → ∀ a, V = some a → w'.heap[a.block]? = w.heap[a.block]?) (hs : w.heap.size ≤ w'.heap.size) : JRow B w' V l := fun h0 => by
  obtain ⟨g, rfl, hB, hg, hh⟩ := h h0
  have hb := hk h0 _ rfl
  exact ⟨g, rfl, hB, Nat.lt_of_lt_of_le hg hs, fun t ht => ⟨(World.cell?_of_block (w := w) (a := ⟨g, 0 + t, none⟩) hb).trans (hh t ht).1, (frozen_of (a := ⟨g, 0 + t, none⟩) hb).trans (hh t ht).2⟩⟩
theorem JRow.below {B : Nat} {w w' : World} {V : Option Addr} {l : List Ch} (h : JRow B w V l) (hb : Below w.heap.size w w') : JRow B w' V l := jrow_kept h (fun h0 a9 h9 => by
    obtain ⟨g9, e9, _, h8, _⟩ := h h0
    rw [e9] at h9
    cases h9
    exact hb.block _ h8) hb.size
section
variable {H : Type} {enc : TypeId × Value → H} {w : World} {base : Nat} {spare : Nat → Bool} {held : Bool}
theorem arg_ch {v : Value} {d : DataW H} {p : List MemPlace} {b0 : Nat} (o : Value.okWide Try.prog w .any b0 24 v) (r : DataW.Trod enc Try.prog w base spare held 24 v d p) : ∃ x : Ch, v = x.val := by
  obtain ⟨c0, c1, c2, c3, c4, y0, y1, y2, y3, y4, fuel, rfl, _, _, h0, h1, h2, h3, h4⟩ := open_agg5 Try.underlying24 (by kernel_rfl) (by kernel_rfl) o r
  obtain ⟨z0, e0, _, _⟩ := DataW.trod_int Try.underlying3 h0
  obtain ⟨z1, e1, _, _⟩ := DataW.trod_int Try.underlying3 h1
  obtain ⟨z2, e2, _, _⟩ := DataW.trod_int Try.underlying3 h2
  obtain ⟨z3, e3, _, _⟩ := DataW.trod_int Try.underlying3 h3
  obtain ⟨z4, e4, _, _⟩ := DataW.trod_int Try.underlying3 h4
  simp at e0 e1 e2 e3 e4
  subst e0 e1 e2 e3 e4
  exact ⟨⟨z0, z1, z2, z3, z4⟩, rfl⟩
end
end Jn
end Go.Proofs.Ytnmaclpjddafnaa
