/- The contract of Clock.Merge. -/
import Derived.Test.YtflaikhkddjfjaaCloF
import Derived.Lib.MinMax
namespace Go.Proofs.Ytflaikhkddjfjaa
open Go.RowKit Go.Shelf
attribute [local go_sem] Oper.semAt_some
set_option linter.unusedVariables false
set_option linter.unusedSimpArgs false

def mx (pre : List (Int × Int)) : List Int := pre.map fun x => max x.1 x.2
theorem mx_snoc (pre : List (Int × Int)) (x : Int × Int) : mx (pre ++ [x]) = mx pre ++ [max x.1 x.2] := by simp [mx]
theorem mx_length (pre : List (Int × Int)) : (mx pre).length = pre.length := by simp [mx]
def mergeL (l m : List Int) : List Int := if may2B l m then mx (upto (pr l m) l.length) else []
def mergeE (l m : List Int) : Int := if may2B l m then 0 else 2

theorem ownsRow_fresh (w : World) (n : Nat) (h : n ≤ maxLen) : (w.alloc (.cells (madeCells #[Value.int .i64 0] n) 3)).ownsRow w.heap.size 3 1 (.slice (some ⟨w.heap.size, 0, none⟩) 0 n) 0 [] :=
  ⟨rfl, .inr ⟨w.heap.size, n, madeCells #[Value.int .i64 0] n, rfl, Nat.le_refl _, heap_alloc_new w _, Nat.zero_le _, h, by simp [size_madeCells], by simp⟩⟩

theorem box_kept {W w1 : World} {n₀ B k : Nat} {t e : TypeId} {size : Nat} {u v : Value} {xs : List Value} {tmp : Obj} (h : Boxed W B t u) (hte : t ≠ e) (hrow : W.ownsRow n₀ e size v k xs) (hgrow : (W.alloc tmp).grownBy w1 v.ownBlock) : Boxed w1 B t u :=
  (h.alloc tmp).kept hgrow (h.not_row hte hrow)
set_option maxRecDepth 100000 in
set_option maxHeartbeats 2000000 in
theorem merge_in (n : Nat) (hn : 3 ≤ n) (A A' : Option Addr) (l m : List Int) (cap cap' : Nat) (w : World) (hr : Rd w w.heap.size A l) (hr' : Rd w w.heap.size A' m) (hm : l.length ≤ maxLen) (hm' : m.length ≤ maxLen) :
    CallsIn Fence.wide n Try.prog 38 #[.slice A l.length cap, .slice A' m.length cap'] w fun e w' =>
      ∃ v, e = .returned (.tuple #[v, .int .i64 (mergeE l m)]) ∧ w'.ownsRow w.heap.size 3 1 v (mergeL l m).length (ints (mergeL l m)) ∧ Below w.heap.size w w' := by
  have h1 : 1 ≤ n := by omega
  have Hr := hide hr
  have Hr' := hide hr'
  clear hr hr'
  by_cases hok : may2B l m = true
  · obtain ⟨hlm, hmay, _⟩ := may2B_yes hok
    have hl64 := (mayB_len hmay).2
    have Hok := hide hok
    have Hlm := hide hlm
    obtain ⟨i0, hi0, hz0, hz1, hz2⟩ := info_parts int_info
    clear hok hmay hlm
    refine callsIn_of_wp_marks Try.func38 rfl trivial ?_ rfl
    simp only [Try.ntmps38, List.size_toArray, List.length_cons, List.length_nil, Nat.reduceAdd, Nat.reduceSub, Array.replicate_succ, Array.replicate_zero, List.push_toArray, List.append_toArray, List.nil_append, List.cons_append]
    have hmk := fun W => run_make_rowN (P := Try.prog) 30 3 i0 (.int .i64 0) Try.underlying30 hi0 hz0 .i64 .i64 0 l.length (Nat.zero_le _) (by rw [hz2]; omega) (by omega) W
    simp only [hz1, Nat.mul_one, Int.natCast_zero, show (Value.int .i64 0).cells = #[Value.int .i64 0] from rfl] at hmk
    gi_wp2_with (first
      | (refine ⟨trivial, ?_⟩; gi_at_call 40; refine (callsIn_wide.2 (may2_a _ _ _ _ _ _ _ _ _ Hr.out Hr'.out hm hm')).mono ?_; rw [Hok.out]; rintro e w' ⟨rfl, rfl⟩)
      | (refine ⟨trivial, ?_⟩; gi_at_call 41; refine (pairs_in (n - 1) _ _ rfl rfl _ _ _ _ _ _ _ rfl rfl).mono ?_; rintro e w' ⟨rfl, rfl⟩))
    have hB0 : Below w.heap.size w ((((w.alloc (.cells (madeCells #[.int .i64 0] l.length) 3)).alloc (.cells #[.slice (some ⟨w.heap.size, 0, none⟩) 0 l.length] 30)).alloc (.cells #[.slice A l.length cap] 30)).alloc (.cells #[.slice A' m.length cap'] 30)) :=
      ((((Below.refl _ w).alloc (Nat.le_refl _) _).alloc (by simp) _).alloc (by simp; omega) _).alloc (by simp; omega) _
    have o0 : ((((w.alloc (.cells (madeCells #[.int .i64 0] l.length) 3)).alloc (.cells #[.slice (some ⟨w.heap.size, 0, none⟩) 0 l.length] 30)).alloc (.cells #[.slice A l.length cap] 30)).alloc (.cells #[.slice A' m.length cap'] 30)).ownsRow w.heap.size 3 1 (.slice (some ⟨w.heap.size, 0, none⟩) 0 l.length) 0 [] :=
      ((((ownsRow_fresh w l.length (by unfold maxLen; omega)).alloc _).alloc _).alloc _)
    have b1 := ((Boxed.new (w.alloc (.cells (madeCells #[.int .i64 0] l.length) 3)) 30 (.slice (some ⟨w.heap.size, 0, none⟩) 0 l.length)).alloc (.cells #[.slice A l.length cap] 30)).alloc (.cells #[.slice A' m.length cap'] 30)
    have b3 := (Boxed.new ((w.alloc (.cells (madeCells #[.int .i64 0] l.length) 3)).alloc (.cells #[.slice (some ⟨w.heap.size, 0, none⟩) 0 l.length] 30)) 30 (.slice A l.length cap)).alloc (.cells #[.slice A' m.length cap'] 30)
    have b4 := Boxed.new (((w.alloc (.cells (madeCells #[.int .i64 0] l.length) 3)).alloc (.cells #[.slice (some ⟨w.heap.size, 0, none⟩) 0 l.length] 30)).alloc (.cells #[.slice A l.length cap] 30)) 30 (.slice A' m.length cap')
    simp only [World.size_alloc] at b1 b3 b4
    have hsz : ((((w.alloc (.cells (madeCells #[.int .i64 0] l.length) 3)).alloc (.cells #[.slice (some ⟨w.heap.size, 0, none⟩) 0 l.length] 30)).alloc (.cells #[.slice A l.length cap] 30)).alloc (.cells #[.slice A' m.length cap'] 30)).heap.size = w.heap.size + 4 := by simp
    generalize ((((w.alloc (.cells (madeCells #[.int .i64 0] l.length) 3)).alloc (.cells #[.slice (some ⟨w.heap.size, 0, none⟩) 0 l.length] 30)).alloc (.cells #[.slice A l.length cap] 30)).alloc (.cells #[.slice A' m.length cap'] 30)) = W0 at *
    have hr0 : Rd W0 w.heap.size A l := Hr.out.below hB0
    have hr0' : Rd W0 w.heap.size A' m := Hr'.out.below hB0
    refine wpIn_rangeFunc_ownG rfl h1 (gf := 47) (lb := #[.pointer (some ⟨w.heap.size + 1 + 1, 0, none⟩), .pointer (some ⟨w.heap.size + 1 + 1 + 1, 0, none⟩)]) rfl trivial (enters_of Try.func47 (by kernel_rfl) rfl)
      (pairs_stops (n - 1) (by omega) (w.heap.size + 1 + 1) (w.heap.size + 1 + 1 + 1) w.heap.size cap cap' A A' l m Hlm.out (by omega) W0 (by omega) (by omega) (by omega) b3.cell b4 hr0 hr0') kpB_t (kpB_b (by omega)) (Below.refl _ _) (fun _ => rfl)
      (fun pre W => (∃ v, Boxed W (w.heap.size + 1) 30 v ∧ W.ownsRow w.heap.size 3 1 v (mx pre).length (ints (mx pre)) ∧ True) ∧ Below w.heap.size w W)
      (fun _ _ _ => False)
      (OwnFrom.and (Own.from (holdsRow_own w.heap.size (w.heap.size + 1) 30 3 1 (fun pre => (mx pre).length) (fun pre => ints (mx pre)) (fun pre v => True)) _) (ownFrom_below (by omega) (by omega)))
      (fun _ _ _ _ _ hs _ _ => hs)
      ⟨⟨_, b1, o0, trivial⟩, hB0⟩
      (fun x => { tmps := #[.slice A l.length cap, .slice A' m.length cap', undef, undef, .slice none 0 0, .int .i64 0, .pointer (some ⟨w.heap.size + 1, 0, none⟩), .int .i64 x.1, .int .i64 x.2, .slice A l.length cap, .slice A' m.length cap', .bool true, .bool false, .slice A l.length cap, .int .i64 l.length, .slice (some ⟨w.heap.size, 0, none⟩) 0 l.length, .slice A l.length cap, .slice A' m.length cap', .func (.func 47) #[] #[.pointer (some ⟨w.heap.size + 1 + 1, 0, none⟩), .pointer (some ⟨w.heap.size + 1 + 1 + 1, 0, none⟩)], .int .i64 x.1, .int .i64 x.2, undef, undef, undef, undef, undef, undef, undef], defers := [] }) ?assign ?body ?done ?stop
    case assign =>
      intro l0 x W K hK
      dsimp only [encP]
      gi_wp2
      exact hK
    case body =>
      rintro l0 pre ⟨x, y⟩ W ⟨⟨v, hv, hrow, _⟩, hB⟩ hlen
      have hk := hv.cell
      have hf := hv.frozen
      have hlen' : (mx pre).length < 64 := by rw [mx_length]; omega
      have hm1 : (mx pre).length + 1 ≤ maxLen := by unfold maxLen; omega
      have Hmx := hide (mx_snoc pre (x, y))
      have hone : ∀ u ∈ [Value.int .i64 (max x y)], u.oneCell' = true := by simp [Value.oneCell']
      gi_wp2_with (gi_at_builtin; refine wpListIn_append_own _ rfl _ _ 30 rfl w.heap.size 3 i0 (.int .i64 0) 1 8 Try.underlying30 hi0 hz0 hz1 hz2 rfl (by decide) _ _ _ rfl (hrow.alloc _) ⟨W.heap.size, 0, none⟩ 1 1 [.int .i64 (max x y)] rfl rfl (cell_one_new _ _ _) hone hm1 (by omega) (by have := hB.size; simp; omega) ?_; intro v' w1 hown' hgrow _; obtain ⟨g', cap2, rfl⟩ := ownsRow_succ hown'; obtain ⟨hv1, hv2, hr2, hk2, hb2⟩ := hv.appended (by decide) hrow hB.size (by omega) hown' hgrow; have hc1 := hv1.cell; have hf1 := hv1.frozen)
      refine ⟨hk2.from _, ⟨hb2, fun e => (box_kept e (by decide) hrow hgrow).other (by omega) _⟩, ⟨_, hv2, ?_⟩, hB.trans hb2⟩
      rw [Hmx.out, List.length_append]
      simpa [ints] using hr2
    case done =>
      rintro D ys W hD rfl ⟨⟨v, hv, hrow, _⟩, hB⟩ hK
      have hk := hv.cell
      gi_wp2
      have hL : mergeL l m = mx (upto (pr l m) l.length) := by simp [mergeL, Hok.out]
      have hE : mergeE l m = 0 := by simp [mergeE, Hok.out]
      rw [hL, hE]
      refine ⟨by simp, .inl ⟨_, _, rfl, run_takeDeferred hK, ?_⟩⟩
      refine ⟨.tuple #[v, .int .i64 0], by simp [results, Try.f38, go_sem], v, rfl, ownsRow_putObj hrow _ hK rfl, hB.trans (belowK_b (w := w) (Nat.le_refl _) W D _ _ (by omega) hK rfl rfl)⟩
    case stop =>
      rintro D c pre W hD _ h _
      exact h.elim
  · have Hok := hide (show may2B l m = false by simpa using hok)
    have hL : mergeL l m = [] := by simp [mergeL, Hok.out]
    have hE : mergeE l m = 2 := by simp [mergeE, Hok.out]
    rw [hL, hE]
    clear hok hL hE
    refine callsIn_of_wp_marks Try.func38 rfl trivial ?_ rfl
    simp only [Try.ntmps38, List.size_toArray, List.length_cons, List.length_nil, Nat.reduceAdd, Nat.reduceSub, Array.replicate_succ, Array.replicate_zero, List.push_toArray, List.append_toArray, List.nil_append, List.cons_append]
    gi_wp2_with (first
      | (refine ⟨trivial, ?_⟩; gi_at_call 40; refine (callsIn_wide.2 (may2_a _ _ _ _ _ _ _ _ _ Hr.out Hr'.out hm hm')).mono ?_; rw [Hok.out]; rintro e w' ⟨rfl, rfl⟩))
    exact ⟨.tuple #[.slice none 0 0, .int .i64 2], by simp [results, Try.f38, go_sem], _, rfl, (Owned.nil _ _), Below.refl _ _⟩
theorem own_formI {w : World} {B : Nat} {v : Value} {l : List Int} (h : w.ownsRow B 3 1 v l.length (ints l)) : ∃ A cap, v = .slice A l.length cap ∧ Owned w B A cap l := by
  obtain ⟨h0, ⟨hv, hn⟩ | ⟨g', cap', cur, hv, h1⟩⟩ := h
  · exact ⟨none, 0, by rw [hv, hn], h0, .inl ⟨by rw [hn], hn⟩⟩
  · exact ⟨_, _, hv, h0, .inr ⟨g', cap', cur, rfl, h1⟩⟩
theorem merge_a (A A' : Option Addr) (l m : List Int) (cap cap' : Nat) (w : World) (hr : Rd w w.heap.size A l) (hr' : Rd w w.heap.size A' m) (hm : l.length ≤ maxLen) (hm' : m.length ≤ maxLen) :
    Calls Try.prog 38 #[.slice A l.length cap, .slice A' m.length cap'] w fun e w' =>
      ∃ A2 cap2, e = .returned (.tuple #[.slice A2 (mergeL l m).length cap2, .int .i64 (mergeE l m)]) ∧ Owned w' w.heap.size A2 cap2 (mergeL l m) ∧ Below w.heap.size w w' :=
  (callsIn_wide.1 (merge_in 3 (Nat.le_refl _) A A' l m cap cap' w hr hr' hm hm')).mono fun e w' ⟨v, he, ho, hb⟩ => by
    obtain ⟨A2, cap2, rfl, ho'⟩ := own_formI ho
    exact ⟨A2, cap2, he, ho', hb⟩
end Go.Proofs.Ytflaikhkddjfjaa
