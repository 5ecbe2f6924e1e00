/- The contract of Clock.Of. -/
import Derived.Test.YtflaikhkddjfjaaCloE
namespace Go.Proofs.Ytflaikhkddjfjaa
open Go.RowKit Go.Shelf
attribute [local go_sem] Oper.semAt_some
set_option linter.unusedVariables false
set_option linter.unusedSimpArgs false

def cls (pre : List (Int × Int)) : Nat := if pre.all (fun x => decide (x.1 ≤ x.2)) then (if pre.all (fun x => decide (x.2 ≤ x.1)) then 0 else 1) else if pre.all (fun x => decide (x.2 ≤ x.1)) then 2 else 3
theorem cls_snoc (pre : List (Int × Int)) (x : Int × Int) :
    cls (pre ++ [x]) = if x.1 < x.2 then (if cls pre = 0 ∨ cls pre = 1 then 1 else 3) else if x.2 < x.1 then (if cls pre = 0 ∨ cls pre = 2 then 2 else 3) else cls pre := by
  unfold cls
  simp only [List.all_append, List.all_cons, List.all_nil, Bool.and_true, Bool.and_eq_true, decide_eq_true_eq]
  generalize pre.all (fun x => decide (x.1 ≤ x.2)) = p
  generalize pre.all (fun x => decide (x.2 ≤ x.1)) = q
  rcases Int.lt_trichotomy x.1 x.2 with h | h | h
  · have h1 : x.1 ≤ x.2 := by omega
    have h2 : ¬ x.2 ≤ x.1 := by omega
    cases p <;> cases q <;> simp [h, h1, h2]
  · have h1 : x.1 ≤ x.2 := by omega
    have h2 : x.2 ≤ x.1 := by omega
    have h3 : ¬ x.1 < x.2 := by omega
    have h4 : ¬ x.2 < x.1 := by omega
    cases p <;> cases q <;> simp [h1, h2, h3, h4]
  · have h1 : ¬ x.1 ≤ x.2 := by omega
    have h2 : x.2 ≤ x.1 := by omega
    have h3 : ¬ x.1 < x.2 := by omega
    cases p <;> cases q <;> simp [h, h1, h2, h3]
theorem cls_lt {pre : List (Int × Int)} {x y : Int} {t v : Nat} (h : x < y) (ht : cls pre = t) (hv : v = if t = 0 ∨ t = 1 then 1 else 3) : cls (pre ++ [(x, y)]) = v := by
  rw [cls_snoc, if_pos h, ht, hv]
theorem cls_gt {pre : List (Int × Int)} {x y : Int} {t v : Nat} (h : y < x) (ht : cls pre = t) (hv : v = if t = 0 ∨ t = 2 then 2 else 3) : cls (pre ++ [(x, y)]) = v := by
  rw [cls_snoc, if_neg (show ¬ x < y by omega), if_pos h, ht, hv]
theorem cls_eq {pre : List (Int × Int)} {x y : Int} {t : Nat} (h : x = y) (ht : cls pre = t) : cls (pre ++ [(x, y)]) = t := by
  subst h
  rw [cls_snoc, if_neg (Int.lt_irrefl _), if_neg (Int.lt_irrefl _), ht]
theorem cls_three_append {pre suf : List (Int × Int)} (h : cls pre = 3) : cls (pre ++ suf) = 3 := by
  have h1 : pre.all (fun x => decide (x.1 ≤ x.2)) = false ∧ pre.all (fun x => decide (x.2 ≤ x.1)) = false := by
    unfold cls at h
    cases h1 : pre.all (fun x => decide (x.1 ≤ x.2)) <;> cases h2 : pre.all (fun x => decide (x.2 ≤ x.1)) <;> simp [h1, h2] at h ⊢
  unfold cls
  rw [List.all_append, List.all_append, h1.1, h1.2]
  rfl
theorem cls_stuck (f : Nat → Int × Int) {k n : Nat} (hk : k ≤ n) (h : cls (upto f k) = 3) : cls (upto f n) = 3 := by
  obtain ⟨d, rfl⟩ := Nat.exists_eq_add_of_le hk
  have : upto f (k + d) = upto f k ++ (List.range d).map (fun i => f (k + i)) := by
    simp [upto, List.range_add]
  rw [this]
  exact cls_three_append h
def ofOk (l m : List Int) : Bool := may2B l m
def ofU (l m : List Int) : Nat := if ofOk l m then cls (upto (pr l m) l.length) else 0
def ofE (l m : List Int) : Int := if ofOk l m then 0 else 2

set_option maxRecDepth 100000 in
set_option maxHeartbeats 2000000 in
theorem of_in (n : Nat) (hn : 3 ≤ n) (A A' : Option Addr) (l m : List Int) (cap cap' : Nat) (w : World) (hr : Rd w w.heap.size A l) (hr' : Rd w w.heap.size A' m) (hm : l.length ≤ maxLen) (hm' : m.length ≤ maxLen) :
    CallsIn Fence.wide n Try.prog 25 #[.slice A l.length cap, .slice A' m.length cap'] w fun e w' => e = .returned (.tuple #[.int .u8 (ofU l m), .int .i64 (ofE l m)]) ∧ Below w.heap.size w w' := by
  have h1 : 1 ≤ n := by omega
  have Hr := hide hr
  have Hr' := hide hr'
  clear hr hr'
  by_cases hok : may2B l m = true
  · obtain ⟨hlm, hmay, _⟩ := may2B_yes hok
    have hl64 := (mayB_len hmay).2
    have Hok := hide hok
    have Hlm := hide hlm
    clear hok hmay hlm
    refine callsIn_of_wp_marks Try.func25 rfl trivial ?_ rfl
    simp only [Try.ntmps25, List.size_toArray, List.length_cons, List.length_nil, Nat.reduceAdd, Nat.reduceSub, Array.replicate_succ, Array.replicate_zero, List.push_toArray, List.append_toArray, List.nil_append, List.cons_append]
    have hrw : Hid (Rd ((w.alloc (.cells #[.int .u8 0] 5)).alloc (.cells #[.int .i64 0] 31)) w.heap.size A l) := hide ((Hr.out.alloc (Nat.le_refl _) _).alloc (by simp) _)
    have hrw' : Hid (Rd ((w.alloc (.cells #[.int .u8 0] 5)).alloc (.cells #[.int .i64 0] 31)) w.heap.size A' m) := hide ((Hr'.out.alloc (Nat.le_refl _) _).alloc (by simp) _)
    gi_wp2_with (first
      | (refine ⟨trivial, ?_⟩; gi_at_call 40; refine (callsIn_wide.2 (may2_a _ _ _ _ _ _ _ _ _ hrw.out hrw'.out hm hm')).mono ?_; rw [Hok.out]; rintro e w' ⟨rfl, rfl⟩)
      | (refine ⟨trivial, ?_⟩; gi_at_call 41; refine (pairs_in (n - 1) _ _ rfl rfl _ _ _ _ _ _ _ rfl rfl).mono ?_; rintro e w' ⟨rfl, rfl⟩))
    have hB0 : Below w.heap.size w (((((w.alloc (.cells #[.int .u8 0] 5)).alloc (.cells #[.int .i64 0] 31)).alloc (.cells #[.int .u8 0] 5)).alloc (.cells #[.slice A l.length cap] 30)).alloc (.cells #[.slice A' m.length cap'] 30)) :=
      (((((Below.refl _ w).alloc (Nat.le_refl _) _).alloc (by simp) _).alloc (by simp; omega) _).alloc (by simp; omega) _).alloc (by simp; omega) _
    have b0 := ((((Boxed.new w 5 (.int .u8 0)).alloc (.cells #[.int .i64 0] 31)).alloc (.cells #[.int .u8 0] 5)).alloc (.cells #[.slice A l.length cap] 30)).alloc (.cells #[.slice A' m.length cap'] 30)
    have b1 := (((Boxed.new (w.alloc (.cells #[.int .u8 0] 5)) 31 (.int .i64 0)).alloc (.cells #[.int .u8 0] 5)).alloc (.cells #[.slice A l.length cap] 30)).alloc (.cells #[.slice A' m.length cap'] 30)
    have b2 := ((Boxed.new ((w.alloc (.cells #[.int .u8 0] 5)).alloc (.cells #[.int .i64 0] 31)) 5 (.int .u8 0)).alloc (.cells #[.slice A l.length cap] 30)).alloc (.cells #[.slice A' m.length cap'] 30)
    have b3 := (Boxed.new (((w.alloc (.cells #[.int .u8 0] 5)).alloc (.cells #[.int .i64 0] 31)).alloc (.cells #[.int .u8 0] 5)) 30 (.slice A l.length cap)).alloc (.cells #[.slice A' m.length cap'] 30)
    have b4 := Boxed.new ((((w.alloc (.cells #[.int .u8 0] 5)).alloc (.cells #[.int .i64 0] 31)).alloc (.cells #[.int .u8 0] 5)).alloc (.cells #[.slice A l.length cap] 30)) 30 (.slice A' m.length cap')
    simp only [World.size_alloc] at b1 b2 b3 b4
    have hsz : (((((w.alloc (.cells #[.int .u8 0] 5)).alloc (.cells #[.int .i64 0] 31)).alloc (.cells #[.int .u8 0] 5)).alloc (.cells #[.slice A l.length cap] 30)).alloc (.cells #[.slice A' m.length cap'] 30)).heap.size = w.heap.size + 5 := by simp
    generalize (((((w.alloc (.cells #[.int .u8 0] 5)).alloc (.cells #[.int .i64 0] 31)).alloc (.cells #[.int .u8 0] 5)).alloc (.cells #[.slice A l.length cap] 30)).alloc (.cells #[.slice A' m.length cap'] 30)) = W0 at *
    have hr0 : Rd W0 w.heap.size A l := Hr.out.below hB0
    have hr0' : Rd W0 w.heap.size A' m := Hr'.out.below hB0
    refine wpIn_rangeFunc_ownG rfl h1 (gf := 47) (lb := #[.pointer (some ⟨w.heap.size + 1 + 1 + 1, 0, none⟩), .pointer (some ⟨w.heap.size + 1 + 1 + 1 + 1, 0, none⟩)]) rfl trivial (enters_of Try.func47 (by kernel_rfl) rfl)
      (pairs_stops (n - 1) (by omega) (w.heap.size + 1 + 1 + 1) (w.heap.size + 1 + 1 + 1 + 1) w.heap.size cap cap' A A' l m Hlm.out (by omega) W0 (by omega) (by omega) (by omega) b3.cell b4 hr0 hr0') kpB_t (kpB_b (by omega)) (Below.refl _ _) (fun _ => rfl)
      (fun pre W => (cls pre ≤ 2 ∧ Boxed W w.heap.size 5 (.int .u8 0) ∧ Boxed W (w.heap.size + 1) 31 (.int .i64 0) ∧ Boxed W (w.heap.size + 1 + 1) 5 (.int .u8 (cls pre))) ∧ Below w.heap.size w W)
      (fun c pre W => (c = .ret ∧ cls pre = 3 ∧ Boxed W w.heap.size 5 (.int .u8 3) ∧ Boxed W (w.heap.size + 1) 31 (.int .i64 0)) ∧ Below w.heap.size w W)
      (OwnFrom.and (Own.from (fun s X Y row hs hg hrow => ⟨hs.1, boxed_own (β := Unit) _ _ (fun _ => _) () X Y row hs.2.1 hg hrow, boxed_own (β := Unit) _ _ (fun _ => _) () X Y row hs.2.2.1 hg hrow, boxed_own (β := Unit) _ _ (fun _ => _) () X Y row hs.2.2.2 hg hrow⟩) _) (ownFrom_below (by omega) (by omega)))
      (fun c => OwnFrom.and (Own.from (fun s X Y row hs hg hrow => ⟨hs.1, hs.2.1, boxed_own (β := Unit) _ _ (fun _ => _) () X Y row hs.2.2.1 hg hrow, boxed_own (β := Unit) _ _ (fun _ => _) () X Y row hs.2.2.2 hg hrow⟩) _) (ownFrom_below (by omega) (by omega)))
      ⟨⟨by simp [cls], b0, b1, b2⟩, hB0⟩
      (fun x => { tmps := #[.slice A l.length cap, .slice A' m.length cap', undef, undef, .pointer (some ⟨w.heap.size, 0, none⟩), .pointer (some ⟨w.heap.size + 1, 0, none⟩), .pointer (some ⟨w.heap.size + 1 + 1, 0, none⟩), .int .i64 x.1, .int .i64 x.2, undef, .slice A l.length cap, .slice A' m.length cap', .bool true, .bool false, .slice A l.length cap, .slice A' m.length cap', .func (.func 47) #[] #[.pointer (some ⟨w.heap.size + 1 + 1 + 1, 0, none⟩), .pointer (some ⟨w.heap.size + 1 + 1 + 1 + 1, 0, none⟩)], .int .i64 x.1, .int .i64 x.2, undef, undef, undef, undef, undef, undef, undef, undef, undef, undef, undef, undef, undef, undef, undef, undef, undef], defers := [] }) ?assign ?body ?done ?stop
    case assign =>
      intro l0 x W K hK
      dsimp only [encP]
      gi_wp2
      exact hK
    case body =>
      rintro l0 pre ⟨x, y⟩ W ⟨⟨ht, c0, c1, c2⟩, hB⟩ _
      have hk0 := c0.cell
      have hf0 := c0.frozen
      have hk1 := c1.cell
      have hf1 := c1.frozen
      have hf2 := c2.frozen
      have hk2 := c2.cell
      generalize hcl : cls pre = t at *
      have hb2 : w.heap.size ≤ w.heap.size + 1 + 1 := by omega
      have hb1 : w.heap.size ≤ w.heap.size + 1 := by omega
      have htt : t = 0 ∨ t = 1 ∨ t = 2 := by omega
      rcases htt with rfl | rfl | rfl <;> rcases Int.lt_trichotomy x y with h | h | h
      · have Hsn := hide (cls_lt (v := 1) h hcl rfl)
        clear hcl
        gi_wp2
        exact ⟨(KeepsOthers.setCell _ _ _).from _, ⟨(Below.refl _ W).setCell (p := ⟨w.heap.size + 1 + 1, 0, none⟩) hb2 _, fun e => e.other (by omega) _⟩, ⟨by rw [Hsn.out]; omega, c0.other (by omega) _, c1.other (by omega) _, by rw [Hsn.out]; exact c2.set _⟩, hB.setCell (p := ⟨w.heap.size + 1 + 1, 0, none⟩) hb2 _⟩
      · have Hsn := hide (cls_eq h hcl)
        clear hcl
        subst h
        gi_wp2
        exact ⟨(KeepsOthers.setCell _ _ _).from _, ⟨(Below.refl _ W).setCell (p := ⟨w.heap.size + 1 + 1, 0, none⟩) hb2 _, fun e => e.other (by omega) _⟩, ⟨by rw [Hsn.out]; omega, c0.other (by omega) _, c1.other (by omega) _, by rw [Hsn.out]; exact c2.set _⟩, hB.setCell (p := ⟨w.heap.size + 1 + 1, 0, none⟩) hb2 _⟩
      · have Hsn := hide (cls_gt (v := 2) h hcl rfl)
        clear hcl
        have h' : ¬ x < y := by omega
        gi_wp2
        exact ⟨(KeepsOthers.setCell _ _ _).from _, ⟨(Below.refl _ W).setCell (p := ⟨w.heap.size + 1 + 1, 0, none⟩) hb2 _, fun e => e.other (by omega) _⟩, ⟨by rw [Hsn.out]; omega, c0.other (by omega) _, c1.other (by omega) _, by rw [Hsn.out]; exact c2.set _⟩, hB.setCell (p := ⟨w.heap.size + 1 + 1, 0, none⟩) hb2 _⟩
      · have Hsn := hide (cls_lt (v := 1) h hcl rfl)
        clear hcl
        gi_wp2
        exact ⟨KeepsFrom.refl _ _, ⟨Below.refl _ _, fun e => e⟩, ⟨by rw [Hsn.out]; omega, c0, c1, by rw [Hsn.out]; exact c2⟩, hB⟩
      · have Hsn := hide (cls_eq h hcl)
        clear hcl
        subst h
        gi_wp2
        exact ⟨KeepsFrom.refl _ _, ⟨Below.refl _ _, fun e => e⟩, ⟨by rw [Hsn.out]; omega, c0, c1, by rw [Hsn.out]; exact c2⟩, hB⟩
      · have Hsn := hide (cls_gt (v := 3) h hcl rfl)
        clear hcl
        have h' : ¬ x < y := by omega
        gi_wp2
        exact ⟨((KeepsOthers.setCell _ _ _).trans (KeepsOthers.setCell _ _ _)).from _, ⟨rfl, Hsn.out, (c0.set _).other (by omega) _, (c1.other (by omega) _).set _⟩, (hB.setCell (p := ⟨w.heap.size, 0, none⟩) (Nat.le_refl _) _).setCell (p := ⟨w.heap.size + 1, 0, none⟩) hb1 _⟩
      · have Hsn := hide (cls_lt (v := 3) h hcl rfl)
        clear hcl
        gi_wp2
        exact ⟨((KeepsOthers.setCell _ _ _).trans (KeepsOthers.setCell _ _ _)).from _, ⟨rfl, Hsn.out, (c0.set _).other (by omega) _, (c1.other (by omega) _).set _⟩, (hB.setCell (p := ⟨w.heap.size, 0, none⟩) (Nat.le_refl _) _).setCell (p := ⟨w.heap.size + 1, 0, none⟩) hb1 _⟩
      · have Hsn := hide (cls_eq h hcl)
        clear hcl
        subst h
        gi_wp2
        exact ⟨KeepsFrom.refl _ _, ⟨Below.refl _ _, fun e => e⟩, ⟨by rw [Hsn.out]; omega, c0, c1, by rw [Hsn.out]; exact c2⟩, hB⟩
      · have Hsn := hide (cls_gt (v := 2) h hcl rfl)
        clear hcl
        have h' : ¬ x < y := by omega
        gi_wp2
        exact ⟨KeepsFrom.refl _ _, ⟨Below.refl _ _, fun e => e⟩, ⟨by rw [Hsn.out]; omega, c0, c1, by rw [Hsn.out]; exact c2⟩, hB⟩
    case done =>
      rintro D ys W hD rfl ⟨⟨ht, c0, c1, c2⟩, hB⟩ hK
      have hk0 := c0.cell
      have hf0 := c0.frozen
      have hk1 := c1.cell
      have hf1 := c1.frozen
      have hk2 := c2.cell
      have hb1 : w.heap.size ≤ w.heap.size + 1 := by omega
      gi_wp2
      have d0 := (c0.set (.int .u8 (cls (upto (pr l m) l.length)))).other (B' := w.heap.size + 1) (by omega) (.int .i64 0)
      have d1 := (c1.other (B' := w.heap.size) (by omega) (.int .u8 (cls (upto (pr l m) l.length)))).set (.int .i64 0)
      have hK' := ((KeepsOthers.setCell W ⟨w.heap.size, 0, none⟩ (.int .u8 (cls (upto (pr l m) l.length)))).trans (KeepsOthers.setCell _ ⟨w.heap.size + 1, 0, none⟩ (.int .i64 0))).same D _ hK rfl
      have hB' := (hB.setCell (p := ⟨w.heap.size, 0, none⟩) (Nat.le_refl _) (.int .u8 (cls (upto (pr l m) l.length)))).setCell (p := ⟨w.heap.size + 1, 0, none⟩) hb1 (.int .i64 0)
      have hU : ofU l m = cls (upto (pr l m) l.length) := by simp [ofU, ofOk, Hok.out]
      have hE : ofE l m = 0 := by simp [ofE, ofOk, Hok.out]
      rw [hU, hE]
      generalize cls (upto (pr l m) l.length) = T at *
      generalize ((W.setCell ⟨w.heap.size, 0, none⟩ (.int .u8 T)).setCell ⟨w.heap.size + 1, 0, none⟩ (.int .i64 0)) = W2 at *
      have e0 := cell_kept d0.cell (grownBy_putObj' W2 D (.deferred none)) (fun r e => by cases e; exact ⟨_, hK', rfl⟩)
      have e1 := cell_kept d1.cell (grownBy_putObj' W2 D (.deferred none)) (fun r e => by cases e; exact ⟨_, hK', rfl⟩)
      refine ⟨by simp, .inl ⟨_, _, rfl, run_takeDeferred hK', ?_⟩⟩
      refine ⟨.tuple #[.int .u8 T, .int .i64 0], ?_, rfl, hB'.trans (belowK_b (w := w) (Nat.le_refl _) W2 D _ _ (by omega) hK' rfl rfl)⟩
      simp [results, Try.f25, go_sem, e0, e1]
    case stop =>
      rintro D c pre W hD ⟨k, hk, rfl⟩ ⟨⟨rfl, h3, c0, c1⟩, hB⟩ hK
      gi_wp2
      have hU : ofU l m = 3 := by
        have h : cls (upto (pr l m) l.length) = 3 := cls_stuck (pr l m) hk h3
        simp [ofU, ofOk, Hok.out, h]
      have hE : ofE l m = 0 := by simp [ofE, ofOk, Hok.out]
      rw [hU, hE]
      have e0 := cell_kept c0.cell (grownBy_putObj' W D (.deferred none)) (fun r e => by cases e; exact ⟨_, hK, rfl⟩)
      have e1 := cell_kept c1.cell (grownBy_putObj' W D (.deferred none)) (fun r e => by cases e; exact ⟨_, hK, rfl⟩)
      refine ⟨by simp, .inl ⟨_, _, rfl, run_takeDeferred hK, ?_⟩⟩
      refine ⟨.tuple #[.int .u8 3, .int .i64 0], ?_, rfl, hB.trans (belowK_b (w := w) (Nat.le_refl _) W D _ _ (by omega) hK rfl rfl)⟩
      simp [results, Try.f25, go_sem, e0, e1]
  · have Hok := hide (show may2B l m = false by simpa using hok)
    have hU : ofU l m = 0 := by simp [ofU, ofOk, Hok.out]
    have hE : ofE l m = 2 := by simp [ofE, ofOk, Hok.out]
    rw [hU, hE]
    clear hok hU hE
    refine callsIn_of_wp_marks Try.func25 rfl trivial ?_ rfl
    simp only [Try.ntmps25, List.size_toArray, List.length_cons, List.length_nil, Nat.reduceAdd, Nat.reduceSub, Array.replicate_succ, Array.replicate_zero, List.push_toArray, List.append_toArray, List.nil_append, List.cons_append]
    have hrw : Hid (Rd ((w.alloc (.cells #[.int .u8 0] 5)).alloc (.cells #[.int .i64 0] 31)) w.heap.size A l) := hide ((Hr.out.alloc (Nat.le_refl _) _).alloc (by simp) _)
    have hrw' : Hid (Rd ((w.alloc (.cells #[.int .u8 0] 5)).alloc (.cells #[.int .i64 0] 31)) w.heap.size A' m) := hide ((Hr'.out.alloc (Nat.le_refl _) _).alloc (by simp) _)
    gi_wp2_with (first
      | (refine ⟨trivial, ?_⟩; gi_at_call 40; refine (callsIn_wide.2 (may2_a _ _ _ _ _ _ _ _ _ hrw.out hrw'.out hm hm')).mono ?_; rw [Hok.out]; rintro e w' ⟨rfl, rfl⟩))
    exact ⟨.tuple #[.int .u8 0, .int .i64 2], by simp [results, Try.f25, go_sem], rfl, ((Below.refl _ w).alloc (Nat.le_refl _) _).alloc (by simp) _⟩
theorem of_a (A A' : Option Addr) (l m : List Int) (cap cap' : Nat) (w : World) (hr : Rd w w.heap.size A l) (hr' : Rd w w.heap.size A' m) (hm : l.length ≤ maxLen) (hm' : m.length ≤ maxLen) :
    Calls Try.prog 25 #[.slice A l.length cap, .slice A' m.length cap'] w fun e w' => e = .returned (.tuple #[.int .u8 (ofU l m), .int .i64 (ofE l m)]) ∧ Below w.heap.size w w' :=
  callsIn_wide.1 (of_in 3 (Nat.le_refl _) A A' l m cap cap' w hr hr' hm hm')
end Go.Proofs.Ytflaikhkddjfjaa
