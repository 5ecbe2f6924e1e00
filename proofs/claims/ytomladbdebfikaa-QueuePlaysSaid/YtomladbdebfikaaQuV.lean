/- What comes in: acts, as they are read; Great; both queues. -/
import Derived.Test.YtomladbdebfikaaRows
import Derived.Test.YtomladbdebfikaaQuU
import Derived.Test.YtomladbdebfikaaQuM
import Derived.Test.YtomladbdebfikaaFlat
namespace Go.Proofs.Ytomladbdebfikaa
open Go Go.Joins Go.ChangeShapes Go.WideShapes Go.RowKit Go.Deep Go.Lib
set_option linter.unusedVariables false
set_option linter.unusedSimpArgs false
namespace Qu
structure Ac where
  kind : Int
  m : Msg
instance : Inhabited Ac := ⟨⟨0, m0⟩⟩
def acC (x : Ac) : List Value := .int .u8 x.kind :: msgC x.m
/-- The acts lie in a row. -/
def Acts (w : World) (A : Option Addr) (n : Nat) (F : Nat → Ac) : Prop := ∀ i, i < n → 0 ≤ (F i).kind ∧ (F i).kind ≤ 255 ∧ ∃ a, A = some a ∧ a.block < w.heap.size ∧ ∀ j v, (acC (F i))[j]? = some v → w.cell? (a.add (i * 9 + j)) = some v
theorem block_add (a : Addr) (n : Nat) : (a.add n).block = a.block := by unfold Addr.add; split <;> rfl
theorem Acts.below {w w' : World} {A : Option Addr} {n : Nat} {F : Nat → Ac} (h : Acts w A n F) (hb : Below w.heap.size w w') : Acts w' A n F := fun i hi => by
  obtain ⟨k0, k1, a, hA, hlt, hc⟩ := h i hi
  exact ⟨k0, k1, a, hA, Nat.lt_of_lt_of_le hlt hb.size, fun j v hv => (hb.cell (p := a.add (i * 9 + j)) (by rw [block_add]; exact hlt)).trans (hc j v hv)⟩
theorem add_lits (a : Addr) (j : Nat) (hj : 0 < j) : a.add j = ⟨a.block, a.off + j, none⟩ := by unfold Addr.add; rw [if_neg (by omega)]
/-- The cells of an act, as the walk writes them. -/
theorem Acts.cells {w : World} {A : Option Addr} {n : Nat} {F : Nat → Ac} (h : Acts w A n F) {i : Nat} (hi : i < n) : ∃ a, A = some a ∧ 0 ≤ (F i).kind ∧ (F i).kind ≤ 255 ∧ w.cell? (a.add (i * 9)) = some (.int .u8 (F i).kind) ∧
    ∀ j v, (msgC (F i).m)[j]? = some v → w.cell? ⟨(a.add (i * 9)).block, (a.add (i * 9)).off + (j + 1), none⟩ = some v := by
  obtain ⟨k0, k1, a, hA, _, hc⟩ := h i hi
  have h0 := hc 0 (.int .u8 (F i).kind) rfl
  rw [Nat.add_zero] at h0
  refine ⟨a, hA, k0, k1, h0, fun j v hv => ?_⟩
  have h1 := hc (j + 1) v hv
  rw [← Go.Deep.add_add, add_lits _ (j + 1) (by omega)] at h1
  exact h1
def acK : List Kd := [.i .u8, .s, .i .i64, .i .i64, .i .i64, .i .i64, .i .i64, .i .i64, .b]
section
variable {H : Type} {enc : TypeId × Value → H} {w : World} {base : Nat} {spare : Nat → Bool} {held : Bool}
set_option maxRecDepth 100000 in
theorem acts_of {v : Value} {d : DataW H} {p : List MemPlace} {b0 : Nat} (o : Value.okWide Try.prog w .any b0 22 v) (r : DataW.Trod enc Try.prog w base spare held 22 v d p) :
    ∃ (A : Option Addr) (n cap : Nat) (F : Nat → Ac), v = .slice A n cap ∧ n ≤ maxLen ∧ Acts w A n F := by
  obtain ⟨A0, n0, c0, rfl⟩ := okWide_slice Try.underlying22 o
  obtain ⟨fuel, hf⟩ := r
  have hf : DataW.trod enc Try.prog w base spare held fuel 22 [.slice A0 n0 c0] = some (d, p) := by simpa [Value.cells] using hf
  rcases flat_slice (ks := acK) (f := 30) Try.underlying22 (by kernel_rfl) (by kernel_rfl) hf with h0 | ⟨a, len, cap, h0, hl, hm, hi⟩
  · have h0 : Value.slice A0 n0 c0 = .slice none 0 0 := by simpa using h0
    injection h0 with e1 e2 e3
    subst e1 e2 e3
    exact ⟨none, 0, 0, fun _ => default, rfl, Nat.zero_le _, fun i hi => absurd hi (Nat.not_lt_zero i)⟩
  · have h0 : Value.slice A0 n0 c0 = .slice (some a) len cap := by simpa using h0
    injection h0 with e1 e2 e3
    subst e1 e2 e3
    have each : ∀ i, i < n0 → ∃ x : Ac, 0 ≤ x.kind ∧ x.kind ≤ 255 ∧ a.block < w.heap.size ∧ ∀ j v, (acC x)[j]? = some v → w.cell? (a.add (i * 9 + j)) = some v := by
      intro i hil
      obtain ⟨v0, g0, f0⟩ := hi i hil 0 _ rfl
      obtain ⟨v1, g1, f1⟩ := hi i hil 1 _ rfl
      obtain ⟨v2, g2, f2⟩ := hi i hil 2 _ rfl
      obtain ⟨v3, g3, f3⟩ := hi i hil 3 _ rfl
      obtain ⟨v4, g4, f4⟩ := hi i hil 4 _ rfl
      obtain ⟨v5, g5, f5⟩ := hi i hil 5 _ rfl
      obtain ⟨v6, g6, f6⟩ := hi i hil 6 _ rfl
      obtain ⟨v7, g7, f7⟩ := hi i hil 7 _ rfl
      obtain ⟨v8, g8, f8⟩ := hi i hil 8 _ rfl
      obtain ⟨z0, rfl, k0⟩ := f0
      obtain ⟨z1, rfl, _⟩ := f1
      obtain ⟨z2, rfl, _⟩ := f2
      obtain ⟨z3, rfl, _⟩ := f3
      obtain ⟨z4, rfl, _⟩ := f4
      obtain ⟨z5, rfl, _⟩ := f5
      obtain ⟨z6, rfl, _⟩ := f6
      obtain ⟨z7, rfl, _⟩ := f7
      obtain ⟨z8, rfl⟩ := f8
      have hw : 0 ≤ z0 ∧ z0 ≤ 255 := by
        simp [Lit.wf] at k0
        have h1 : IntKind.u8.min = 0 := rfl
        have h2 : IntKind.u8.max = 255 := rfl
        omega
      refine ⟨⟨z0, ⟨z1, z2, z3, z4, z5, z6, z7, z8⟩⟩, hw.1, hw.2, ?_, fun j v hv => ?_⟩
      · have := block_lt_of_cell g0
        rwa [block_add] at this
      · match j, hv with
        | 0, hv => cases hv; exact g0
        | 1, hv => cases hv; exact g1
        | 2, hv => cases hv; exact g2
        | 3, hv => cases hv; exact g3
        | 4, hv => cases hv; exact g4
        | 5, hv => cases hv; exact g5
        | 6, hv => cases hv; exact g6
        | 7, hv => cases hv; exact g7
        | 8, hv => cases hv; exact g8
        | _ + 9, hv => cases hv
    obtain ⟨F, hF⟩ := choose_lt each
    exact ⟨some a, n0, c0, F, rfl, by omega, fun i hi => ⟨(hF i hi).1, (hF i hi).2.1, a, rfl, (hF i hi).2.2⟩⟩
end
def grt (n : Nat) (F : Nat → Ac) : Bool := decide (200 < n) || (List.range n).any fun i => decide (100 < (F i).m.key.size)
set_option maxRecDepth 100000 in
set_option maxHeartbeats 8000000 in
theorem Great_c {w : World} {A : Option Addr} {n : Nat} {F : Nat → Ac} (cap : Nat) (h : Acts w A n F) :
    Calls Try.prog 8 #[.slice A n cap] w fun e w' => e = .returned (.bool (grt n F)) ∧ w = w' := by
  have HF := hide h
  clear h
  by_cases hn : 200 < n
  · have nI : (200 : Int) < (n : Int) := by omega
    have E : Hid (grt n F = true) := hide (by simp [grt, hn])
    clear hn
    go_enter Try.func8, Try.ntmps8
    go_wp2_with fail
    go_ret
    exact ⟨by rw [E.out]; rfl, rfl⟩
  have nI : ¬ (200 : Int) < (n : Int) := by omega
  have HN := hide hn
  go_enter Try.func8, Try.ntmps8
  go_wp2_with fail
  go_loopw [3] (fun v3 wr => ∃ i : Nat, i ≤ n ∧ v3 = .int .i64 i ∧ w = wr ∧ Hid (∀ k, k < i → ¬ 100 < (F k).m.key.size)) (fun v3 _ => n - (RowKit.intOf v3).toNat)
  case atStart => exact ⟨0, Nat.zero_le _, rfl, rfl, hide fun k hk => absurd hk (Nat.not_lt_zero k)⟩
  case round =>
    obtain ⟨i, hi, rfl, hwr, HNO⟩ := hrel
    rename World => wr
    subst hwr
    by_cases hlt : i < n
    rotate_left
    · have hltI : ¬ (i : Int) < (n : Int) := by omega
      have E : Hid (grt n F = false) := hide (by
        unfold grt
        rw [decide_eq_false hn, Bool.false_or, List.any_eq_false]
        intro k hk
        have := HNO.out k (by have := List.mem_range.1 hk; omega)
        simpa using this)
      go_wp2_with fail
      go_ret
      exact ⟨by rw [E.out]; rfl, rfl⟩
    have hltI : (i : Int) < (n : Int) := by omega
    obtain ⟨a, rfl, _, _, _, hc⟩ := HF.out.cells hlt
    have c1 : w.cell? ⟨(a.add (i * 9)).block, (a.add (i * 9)).off + 1, none⟩ = some (.string (F i).m.key) := hc 0 _ rfl
    obtain ⟨ky, hky⟩ : ∃ z, (F i).m.key = z := ⟨_, rfl⟩
    rw [hky] at c1
    have HLT := hide hlt
    by_cases hk : 100 < ky.size
    · have kI : (100 : Int) < (ky.size : Int) := by omega
      have E : Hid (grt n F = true) := hide (by
        unfold grt
        rw [List.any_eq_true.2 ⟨i, List.mem_range.2 hlt, by rw [hky]; exact decide_eq_true hk⟩, Bool.or_true])
      clear hlt hc hky hk
      go_wp2_with fail
      go_ret
      exact ⟨by rw [E.out]; rfl, rfl⟩
    · have kI : ¬ (100 : Int) < (ky.size : Int) := by omega
      have HNO1 := hide (show ∀ k, k < i + 1 → ¬ 100 < (F k).m.key.size from fun k hk2 => by
        by_cases e : k = i
        · rw [e, hky]; exact hk
        · exact HNO.out k (by omega))
      clear hlt hc hky hk
      go_wp2_with fail
      go_roundw
      case rel => exact ⟨i + 1, HLT.out, by go_num, by first | trivial | rfl, HNO1⟩
      case measure => have := HLT.out; simp [RowKit.intOf] <;> omega
/-- The program's queue and the document's, of the messages l and k, lie apart. -/
structure Both (w : World) (B q : Nat) (L : QL) (p : Nat) (A : Option Addr) (l k : List Msg) : Prop where
  qs : QSt w q L l
  ra : RAt w p A k
  ap : ∀ b ∈ L.foot q, ¬ b ∈ rf p A
  lo : ∀ b ∈ L.foot q, B ≤ b
  lr : ∀ b ∈ rf p A, B ≤ b
variable {w w' : World} {B q p : Nat} {L : QL} {A : Option Addr} {l k l' : List Msg}
theorem Both.below (h : Both w B q L p A l k) (hb : Below w.heap.size w w') : Both w' B q L p A l k := ⟨h.qs.below hb, h.ra.below hb, h.ap, h.lo, h.lr⟩
theorem Both.size (h : Both w B q L p A l k) : B ≤ w.heap.size := by
  have := h.qs.lt q foot_q
  have := h.lo q foot_q
  omega
theorem Both.goQ (h : Both w B q L p A l k) (hg : Goes w q L l' w') : ∃ L', Both w' B q L' p A l' k ∧ Below B w w' := by
  obtain ⟨L', h1, h2, h3⟩ := hg
  refine ⟨L', ⟨h1, h.ra.ch h2 h.ap, fun b hb hr => ?_, fun b hb => ?_, h.lr⟩, h2.below h.lo h.size⟩
  · rcases h3 b hb with h4 | h4
    · exact h.ap b h4 hr
    · have := h.ra.lt b hr; omega
  · rcases h3 b hb with h4 | h4
    · exact h.lo b h4
    · have := h.size; omega
theorem Both.goR (h : Both w B q L p A l k) (hg : GoesR w p A l' w') : ∃ A', Both w' B q L p A' l l' ∧ Below B w w' := by
  obtain ⟨A', h1, h2, h3⟩ := hg
  refine ⟨A', ⟨h.qs.ch h2 fun b hb hf => h.ap b hf hb, h1, fun b hb hr => ?_, h.lo, fun b hb => ?_⟩, h2.below h.lr h.size⟩
  · rcases h3 b hr with h4 | h4
    · exact h.ap b hb h4
    · have := h.qs.lt b hb; omega
  · rcases h3 b hb with h4 | h4
    · exact h.lr b h4
    · have := h.size; omega
/-- Both are new. -/
theorem both_new {w0 w : World} {q : Nat} {L : QL} (h : QSt w q L []) (hf : ∀ b ∈ L.foot q, w0.heap.size ≤ b) (hs : w0.heap.size ≤ w.heap.size) : Both (w.alloc (.cells #[.slice none 0 0] 29)) w0.heap.size q L w.heap.size none [] [] := by
  have hb := (Below.refl w.heap.size w).alloc (Nat.le_refl _) (.cells #[.slice none 0 0] 29)
  refine ⟨h.below hb, ⟨0, Blk.new w _ _, ⟨rfl, .inl ⟨rfl, rfl⟩⟩⟩, fun b hb hr => ?_, hf, fun b hr => ?_⟩
  · have e : b = w.heap.size := by simpa [rf] using hr
    have := h.lt b hb
    omega
  · have e : b = w.heap.size := by simpa [rf] using hr
    omega
theorem takeL_len (l : List Msg) (v : Who) : (takeL l v).length = l.length := by unfold takeL; split <;> simp
theorem sendL_len (l : List Msg) (m : Msg) : (sendL l m).length ≤ l.length + 1 := by unfold sendL; split <;> simp
theorem rem4 {k : Int} (h0 : 0 ≤ k) : Int.tmod k 4 = 0 ∨ Int.tmod k 4 = 1 ∨ Int.tmod k 4 = 2 ∨ Int.tmod k 4 = 3 := by
  rw [Int.tmod_eq_emod_of_nonneg h0]
  omega
end Qu
end Go.Proofs.Ytomladbdebfikaa
