/- Where a step stands at a point: place. -/
import Derived.Test.YtiojpokfcejhcaaDoorRows
import Derived.Test.YtiojpokfcejhcaaDoorPathH
import Derived.Test.YtiojpokfcejhcaaDoorPathKe
namespace Go.Proofs.YtiojpokfcejhcaaDoor
open Go Go.RowKit
set_option linter.unusedVariables false
set_option linter.unusedSimpArgs false
namespace Pth
theorem binop_eqCh' (x y : Ch) (w : World) : (binOp .eql 47 x.val y.val).run Tryd.prog w = .ok (.bool (decide (x = y))) w := by
  have := run_eqCh x y w
  unfold Op.equal Op.maxDepth at this
  unfold Ch.val at this ⊢
  rw [run_eql_struct, this]
  rfl
/-- The first place at which a step stands. -/
def PlaceAt (vs : List Ch) (off : Bool) (ch : Ch) (k : Nat) : Prop := (off = true ∧ k = vs.length) ∨ (off = false ∧ ∃ h : k < vs.length, vs[k] = ch ∧ ∀ j (hj : j < k), vs[j] ≠ ch)
theorem PlaceAt.of_step {r c : Int} {vs : List Ch} {at_ : Nat} (hn : vs.Nodup) (ha : at_ ≤ vs.length) : PlaceAt vs (stepOf r c vs at_).off (stepOf r c vs at_).ch at_ := by
  unfold stepOf
  by_cases e : at_ = vs.length
  · rw [if_pos e]
    exact .inl ⟨rfl, e⟩
  · rw [if_neg e]
    have hl : at_ < vs.length := by omega
    refine .inr ⟨rfl, hl, by simp [hl], fun j hj e' => ?_⟩
    have e2 : vs[j] = vs[at_] := by rw [e']; simp [hl]
    exact List.pairwise_iff_getElem.1 hn j at_ (by omega) hl hj e2
set_option maxRecDepth 100000 in
set_option maxHeartbeats 4000000 in
theorem place_c (r c : Int) (A : Option Addr) (cap : Nat) (vs : List Ch) (off : Bool) (sr sc : Int) (ch : Ch) (k : Nat) (w : World) (h : CRow w A vs) (hl : vs.length ≤ 1000) (hk : PlaceAt vs off ch k) :
    Calls Tryd.prog 16 #[.agg #[.int .i64 r, .int .i64 c, .slice A vs.length cap], .agg #[.bool off, .int .i64 sr, .int .i64 sc, .int .i64 ch.r, .int .i64 ch.c, .int .i64 ch.f, .int .i64 ch.s, .int .i64 ch.v]] w fun e w' => e = .returned (.int .i64 k) ∧ Below w.heap.size w w' := by
  have hkl : k ≤ vs.length := by
    rcases hk with ⟨_, h1⟩ | ⟨_, h1, _⟩ <;> omega
  obtain ⟨x0, x1, x2, x3, x4⟩ := ch
  have hb1 := (Below.refl w.heap.size w).alloc (Nat.le_refl _) (.cells #[.int .i64 r, .int .i64 c, .slice A vs.length cap] 36)
  have b1 := Blk.new w 36 #[.int .i64 r, .int .i64 c, .slice A vs.length cap]
  have hs1 : (w.alloc (.cells #[.int .i64 r, .int .i64 c, .slice A vs.length cap] 36)).heap.size = w.heap.size + 1 := by simp
  have hb2 := hb1.alloc (by omega) (.cells #[.bool off, .int .i64 sr, .int .i64 sc, .int .i64 x0, .int .i64 x1, .int .i64 x2, .int .i64 x3, .int .i64 x4] 49)
  have b2 := Blk.new (w.alloc (.cells #[.int .i64 r, .int .i64 c, .slice A vs.length cap] 36)) 49 #[.bool off, .int .i64 sr, .int .i64 sc, .int .i64 x0, .int .i64 x1, .int .i64 x2, .int .i64 x3, .int .i64 x4]
  have b1 := b1.alloc (.cells #[.bool off, .int .i64 sr, .int .i64 sc, .int .i64 x0, .int .i64 x1, .int .i64 x2, .int .i64 x3, .int .i64 x4] 49)
  rw [hs1] at b2
  obtain ⟨W2, hW2⟩ : ∃ W2, (w.alloc (.cells #[.int .i64 r, .int .i64 c, .slice A vs.length cap] 36)).alloc (.cells #[.bool off, .int .i64 sr, .int .i64 sc, .int .i64 x0, .int .i64 x1, .int .i64 x2, .int .i64 x3, .int .i64 x4] 49) = W2 := ⟨_, rfl⟩
  rw [hW2] at hb2 b1 b2
  have HB2 := hide hb2
  have B1 := hide b1
  have B2 := hide b2
  have HC := hide (h.below hb2)
  have HK := hide hk
  have HW2 := hide hW2
  clear hb1 hb2 b1 b2 h hk hW2
  go_enter Tryd.func16, Tryd.ntmps16
  go_wp2_with fail
  rw [HW2.out]
  go_loopw [5] (fun vi wr => ∃ j : Nat, j ≤ vs.length ∧ j ≤ k ∧ vi = .int .i64 j ∧ Hid (Below W2.heap.size W2 wr)) (fun vi _ => vs.length - (intOf vi).toNat)
  case atStart => exact ⟨0, Nat.zero_le _, Nat.zero_le _, rfl, hide (Below.refl _ _)⟩
  case round =>
    obtain ⟨j, hj, hjk, rfl, HB⟩ := hrel
    have bp := B1.out.below HB.out B1.out.lt
    have bs := B2.out.below HB.out B2.out.lt
    have p2 : wr.cell? ⟨w.heap.size, 2, none⟩ = some (.slice A vs.length cap) := bp.cell 2
    have s0 : wr.cell? ⟨w.heap.size + 1, 0, none⟩ = some (.bool off) := bs.cell 0
    have s3 : wr.cell? ⟨w.heap.size + 1, 3, none⟩ = some (.int .i64 x0) := bs.cell 3
    have s4 : wr.cell? ⟨w.heap.size + 1, 4, none⟩ = some (.int .i64 x1) := bs.cell 4
    have s5 : wr.cell? ⟨w.heap.size + 1, 5, none⟩ = some (.int .i64 x2) := bs.cell 5
    have s6 : wr.cell? ⟨w.heap.size + 1, 6, none⟩ = some (.int .i64 x3) := bs.cell 6
    have s7 : wr.cell? ⟨w.heap.size + 1, 7, none⟩ = some (.int .i64 x4) := bs.cell 7
    have HBw := hide (HB2.out.trans (HB.out.mono HB2.out.size))
    clear bp bs
    by_cases hlt : j < vs.length
    · have ltI : (j : Int) < (vs.length : Int) := by omega
      rcases HK.out with ⟨ho, hk⟩ | ⟨ho, hk, hkc, hkf⟩
      · subst ho
        subst hk
        clear s3 s4 s5 s6 s7
        go_wp2_with fail
        go_quiet (fail)
        go_wp2_with fail
        go_roundw
        case rel => exact ⟨j + 1, by omega, by omega, by go_num, hide (below_drewN HB.out _)⟩
        case measure => simp [intOf]; omega
      · subst ho
        obtain ⟨a, rfl, ha, hok, c0, c1, c2, c3, c4⟩ := (HC.out.below HB.out).at_ hlt
        have EQ := fun (w' : World) => binop_eqCh' vs[j] ⟨x0, x1, x2, x3, x4⟩ w'
        by_cases hjk2 : j = k
        · subst hjk2
          rw [decide_eq_true hkc, hkc] at EQ
          rw [hkc] at c0 c1 c2 c3 c4
          simp only [Ch.val] at EQ
          simp only at c0 c1 c2 c3 c4
          clear hkc hkf hok
          go_wp2_with fail
          go_quiet (fail)
          go_wp2_with fail
          go_ret
          exact ⟨rfl, below_drewN HBw.out _⟩
        · have hne := hkf j (by omega)
          rw [decide_eq_false hne] at EQ
          clear hkc hkf hok hne
          generalize vs[j] = y at *
          obtain ⟨y0, y1, y2, y3, y4⟩ := y
          simp only [Ch.val] at EQ
          simp only at c0 c1 c2 c3 c4
          go_wp2_with fail
          go_quiet (fail)
          go_wp2_with fail
          go_roundw
          case rel => exact ⟨j + 1, by omega, by omega, by go_num, hide (below_drewN HB.out _)⟩
          case measure => simp [intOf]; omega
    · have ltI : ¬ (j : Int) < (vs.length : Int) := by omega
      have e : k = vs.length := by omega
      subst e
      clear s0 s3 s4 s5 s6 s7
      go_wp2_with fail
      go_ret
      exact ⟨rfl, HBw.out⟩
/-- What going on leaves: a beginning, and one level that goes on. -/
theorem nextR_form : ∀ l : List Lv, nextR l = [] ∨ ∃ R b L, l = R ++ b :: L ∧ nextR l = b.on :: L ∧ 0 < leftN b
  | [] => .inl rfl
  | x :: l => by
    by_cases h : 0 < leftN x
    · exact .inr ⟨[], x, l, rfl, by rw [nextR, if_pos h], h⟩
    · rcases nextR_form l with e | ⟨R, b, L, e1, e2, e3⟩
      · exact .inl (by rw [nextR, if_neg h, e])
      · exact .inr ⟨x :: R, b, L, by rw [e1]; rfl, by rw [nextR, if_neg h, e2], e3⟩
theorem nextL_form (l : List Lv) : nextL l = [] ∨ ∃ L b R, l = L ++ b :: R ∧ nextL l = L ++ [b.on] ∧ 0 < leftN b := by
  rcases nextR_form l.reverse with e | ⟨R, b, L, e1, e2, e3⟩
  · exact .inl (by unfold nextL; rw [e]; rfl)
  · refine .inr ⟨L.reverse, b, R.reverse, ?_, by unfold nextL; rw [e2]; simp, e3⟩
    have := congrArg List.reverse e1
    rw [List.reverse_reverse] at this
    rw [this]
    simp
theorem spCs_take : ∀ (l : List Sp) (n : Nat), (spCs l).take (n * 8) = spCs (l.take n)
  | [], n => by simp [spCs]
  | t :: l, 0 => by simp [spCs]
  | t :: l, n + 1 => by
    have e : (n + 1) * 8 = (spC t).length + n * 8 := by rw [show (spC t).length = 8 from rfl]; omega
    rw [show spCs (t :: l) = spC t ++ spCs l from rfl, e, List.take_length_add_append, spCs_take l n]
    rfl
end Pth
end Go.Proofs.YtiojpokfcejhcaaDoor
