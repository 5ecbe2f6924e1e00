/- The walk of the statement SignOrder. -/
import Derived.Test.YtdojmjbknkbpoaaDoorRows
import Derived.Test.YtdojmjbknkbpoaaDoorSignRow
import Derived.Test.YtdojmjbknkbpoaaDoorSignS
import Derived.Test.YtdojmjbknkbpoaaDoorSignR
namespace Go.Proofs.YtdojmjbknkbpoaaDoor.SignOrderW
open Go.Joins Go.ChangeShapes Go.WideShapes Go.RowKit Go.Deep Go.Proofs.YtdojmjbknkbpoaaDoor
set_option linter.unusedVariables false
set_option linter.unusedSimpArgs false
/-- Of two rows that may be: which is ahead. -/
theorem ord_two {a b : List Ch} (ha : mayL a = true) (hb : mayL b = true) : (ahQ a b = true ∧ ahQ b a = false ∧ decide (a = b) = false) ∨ (ahQ a b = false ∧ ahQ b a = true ∧ decide (a = b) = false) ∨ (ahQ a b = false ∧ ahQ b a = false ∧ decide (a = b) = true) := by
  have e1 : ahQ a b = decide (cmpL a b < 0) := by unfold ahQ; rw [ha, hb]; rfl
  have e2 : ahQ b a = decide (cmpL b a < 0) := by unfold ahQ; rw [ha, hb]; rfl
  rw [e1, e2]
  rcases cmp_tri a b with h | h | h
  · have h2 : ¬ cmpL b a < 0 := fun h2 => cmp_irrefl a (cmp_trans h h2)
    have h3 : ¬ a = b := fun e => by subst e; exact cmp_irrefl a h
    exact .inl ⟨decide_eq_true h, decide_eq_false h2, decide_eq_false h3⟩
  · have h2 : ¬ cmpL a b < 0 := fun h2 => cmp_irrefl a (cmp_trans h2 h)
    have h3 : ¬ a = b := fun e => by subst e; exact cmp_irrefl a h
    exact .inr (.inl ⟨decide_eq_false h2, decide_eq_true h, decide_eq_false h3⟩)
  · subst h
    exact .inr (.inr ⟨decide_eq_false (cmp_irrefl a), decide_eq_false (cmp_irrefl a), decide_eq_true rfl⟩)
theorem ord_three {a b c : List Ch} (ha : mayL a = true) (hb : mayL b = true) (hc : mayL c = true) (h1 : ahQ a b = true) (h2 : ahQ b c = true) : ahQ a c = true := by
  unfold ahQ at *
  rw [ha, hb] at h1
  rw [hb, hc] at h2
  rw [ha, hc]
  simp only [Bool.true_and, decide_eq_true_eq] at *
  exact cmp_trans h1 h2
theorem ord_start {a : List Ch} (ha : mayL a = true) (h0 : 0 < a.length) : ahQ (a.take (a.length - 1)) a = true := by
  unfold ahQ
  rw [mayL_take (by omega) ha, ha]
  simp only [Bool.true_and, decide_eq_true_eq]
  have e : a = a.take (a.length - 1) ++ [a[a.length - 1]] := by
    have h := List.take_succ_eq_append_getElem (show a.length - 1 < a.length by omega)
    rw [show a.length - 1 + 1 = a.length by omega, List.take_length] at h
    exact h
  have := cmp_start (a.take (a.length - 1)) a[a.length - 1]
  rw [← e] at this
  exact this
set_option maxRecDepth 100000 in
set_option maxHeartbeats 16000000 in
theorem walk {H : Type} {enc : TypeId × Value → H} {base : Nat} (W : World) (hp : Pow W) (v0 : Value) (d0 : DataW H) (p0 : List MemPlace) (o0 : Value.okWide Tryd.prog W .any base 22 v0) (r0 : DataW.Trod enc Tryd.prog W 0 (fun _ => true) true 22 v0 d0 p0) (v1 : Value) (d1 : DataW H) (p1 : List MemPlace) (o1 : Value.okWide Tryd.prog W .any base 22 v1) (r1 : DataW.Trod enc Tryd.prog W 0 (fun _ => true) true 22 v1 d1 p1) (v2 : Value) (d2 : DataW H) (p2 : List MemPlace) (o2 : Value.okWide Tryd.prog W .any base 22 v2) (r2 : DataW.Trod enc Tryd.prog W 0 (fun _ => true) true 22 v2 d2 p2) :
    Calls Tryd.prog 6 #[v0, v1, v2] W fun e w' => e = .returned (.bool true) ∧ Below W.heap.size W w' := by
  obtain ⟨A, a, ca, rfl, ha, hca, hca2⟩ := own_rowC o0 r0
  obtain ⟨B, b, cb, rfl, hb, _, _⟩ := own_rowC o1 r1
  obtain ⟨C, c, cc, rfl, hc, _, _⟩ := own_rowC o2 r2
  have AW := hide (awake_a W hp)
  clear o0 r0 o1 r1 o2 r2 hp
  by_cases hla : a.length ≤ 200
  rotate_left
  · have gI : (200 : Int) < (a.length : Int) := by omega
    clear ha hb hc
    go_enter Tryd.func6, Tryd.ntmps6
    go_wp2_with fail
    refine AW.out.mono ?_
    rintro e w1 ⟨rfl, hb1⟩
    have HB1 := hide hb1
    clear hb1
    go_wp2_with fail
    go_ret
    exact ⟨rfl, HB1.out⟩
  have ga : ¬ (200 : Int) < (a.length : Int) := by omega
  by_cases hlb : b.length ≤ 200
  rotate_left
  · have gI : (200 : Int) < (b.length : Int) := by omega
    clear ha hb hc
    go_enter Tryd.func6, Tryd.ntmps6
    go_wp2_with fail
    refine AW.out.mono ?_
    rintro e w1 ⟨rfl, hb1⟩
    have HB1 := hide hb1
    clear hb1
    go_wp2_with fail
    go_ret
    exact ⟨rfl, HB1.out⟩
  have gb : ¬ (200 : Int) < (b.length : Int) := by omega
  by_cases hlc : c.length ≤ 200
  rotate_left
  · have gI : (200 : Int) < (c.length : Int) := by omega
    clear ha hb hc
    go_enter Tryd.func6, Tryd.ntmps6
    go_wp2_with fail
    refine AW.out.mono ?_
    rintro e w1 ⟨rfl, hb1⟩
    have HB1 := hide hb1
    clear hb1
    go_wp2_with fail
    go_ret
    exact ⟨rfl, HB1.out⟩
  have gc : ¬ (200 : Int) < (c.length : Int) := by omega
  have Ma := hide fun (w' : World) (h : Below W.heap.size W w') => May_a A ca a w' (ha.below h) (by omega)
  have Mb := hide fun (w' : World) (h : Below W.heap.size W w') => May_a B cb b w' (hb.below h) (by omega)
  have Mc := hide fun (w' : World) (h : Below W.heap.size W w') => May_a C cc c w' (hc.below h) (by omega)
  have Qab := hide fun (w' : World) (h : Below W.heap.size W w') => Ahead_a A B ca cb a b w' (ha.below h) (hb.below h) (by omega) (by omega)
  have Qba := hide fun (w' : World) (h : Below W.heap.size W w') => Ahead_a B A cb ca b a w' (hb.below h) (ha.below h) (by omega) (by omega)
  have Qbc := hide fun (w' : World) (h : Below W.heap.size W w') => Ahead_a B C cb cc b c w' (hb.below h) (hc.below h) (by omega) (by omega)
  have Qac := hide fun (w' : World) (h : Below W.heap.size W w') => Ahead_a A C ca cc a c w' (ha.below h) (hc.below h) (by omega) (by omega)
  have SM := hide fun (w' : World) (h : Below W.heap.size W w') => same_b A B ca cb a b w' (ha.below h) (hb.below h) (by omega) (by omega)
  have TA := hide fun (hn : 0 < a.length) (w' : World) (h : Below W.heap.size W w') => Ahead_a A A ca ca (a.take (a.length - 1)) a w' ((crow_take ha).below h) (ha.below h) (by rw [List.length_take]; omega) (by omega)
  have TW := hide fun (hn : 0 < a.length) (w' : World) (h : Below W.heap.size W w') => Within_a A A ca ca (a.take (a.length - 1)) a w' ((crow_take ha).below h) (ha.below h) (by rw [List.length_take]; omega) (by omega)
  clear ha hb hc
  rcases ha : mayL a with _ | _
  · rw [ha] at Ma
    go_enter Tryd.func6, Tryd.ntmps6
    go_wp2_with fail
    refine AW.out.mono ?_
    rintro e w1 ⟨rfl, hb1⟩
    have HB1 := hide hb1
    clear hb1
    go_wp2_with fail
    refine (Ma.out w1 HB1.out).mono ?_
    rintro e w2 ⟨rfl, hb2⟩
    have HB2 := hide (HB1.out.trans (hb2.mono HB1.out.size))
    clear hb2
    go_wp2_with fail
    go_ret
    exact ⟨rfl, HB2.out⟩
  rw [ha] at Ma
  rcases hb : mayL b with _ | _
  · rw [hb] at Mb
    go_enter Tryd.func6, Tryd.ntmps6
    go_wp2_with fail
    refine AW.out.mono ?_
    rintro e w1 ⟨rfl, hb1⟩
    have HB1 := hide hb1
    clear hb1
    go_wp2_with fail
    refine (Ma.out w1 HB1.out).mono ?_
    rintro e w2 ⟨rfl, hb2⟩
    have HB2 := hide (HB1.out.trans (hb2.mono HB1.out.size))
    clear hb2
    go_wp2_with fail
    refine (Mb.out w2 HB2.out).mono ?_
    rintro e w3 ⟨rfl, hb3⟩
    have HB3 := hide (HB2.out.trans (hb3.mono HB2.out.size))
    clear hb3
    go_wp2_with fail
    go_ret
    exact ⟨rfl, HB3.out⟩
  rw [hb] at Mb
  rcases hc : mayL c with _ | _
  · rw [hc] at Mc
    go_enter Tryd.func6, Tryd.ntmps6
    go_wp2_with fail
    refine AW.out.mono ?_
    rintro e w1 ⟨rfl, hb1⟩
    have HB1 := hide hb1
    clear hb1
    go_wp2_with fail
    refine (Ma.out w1 HB1.out).mono ?_
    rintro e w2 ⟨rfl, hb2⟩
    have HB2 := hide (HB1.out.trans (hb2.mono HB1.out.size))
    clear hb2
    go_wp2_with fail
    refine (Mb.out w2 HB2.out).mono ?_
    rintro e w3 ⟨rfl, hb3⟩
    have HB3 := hide (HB2.out.trans (hb3.mono HB2.out.size))
    clear hb3
    go_wp2_with fail
    refine (Mc.out w3 HB3.out).mono ?_
    rintro e w4 ⟨rfl, hb4⟩
    have HB4 := hide (HB3.out.trans (hb4.mono HB3.out.size))
    clear hb4
    go_wp2_with fail
    go_ret
    exact ⟨rfl, HB4.out⟩
  rw [hc] at Mc
  have O3 := hide (fun h1 h2 => ord_three (a := a) (b := b) (c := c) ha hb hc h1 h2)
  rcases ord_two ha hb with ⟨h1, h2, h3⟩ | ⟨h1, h2, h3⟩ | ⟨h1, h2, h3⟩
  · rw [h1] at Qab
    rw [h2] at Qba
    rw [h3] at SM
    rcases h4 : ahQ b c with _ | _
    · rw [h4] at Qbc
      have HA := hide ha
      clear h1 h2 h3 h4 O3
      go_enter Tryd.func6, Tryd.ntmps6
      go_wp2_with fail
      refine AW.out.mono ?_
      rintro e w1 ⟨rfl, hb1⟩
      have HB1 := hide hb1
      clear hb1
      go_wp2_with fail
      refine (Ma.out w1 HB1.out).mono ?_
      rintro e w2 ⟨rfl, hb2⟩
      have HB2 := hide (HB1.out.trans (hb2.mono HB1.out.size))
      clear hb2
      go_wp2_with fail
      refine (Mb.out w2 HB2.out).mono ?_
      rintro e w3 ⟨rfl, hb3⟩
      have HB3 := hide (HB2.out.trans (hb3.mono HB2.out.size))
      clear hb3
      go_wp2_with fail
      refine (Mc.out w3 HB3.out).mono ?_
      rintro e w4 ⟨rfl, hb4⟩
      have HB4 := hide (HB3.out.trans (hb4.mono HB3.out.size))
      clear hb4
      go_wp2_with fail
      refine (Qab.out w4 HB4.out).mono ?_
      rintro e w5 ⟨rfl, hb5⟩
      have HB5 := hide (HB4.out.trans (hb5.mono HB4.out.size))
      clear hb5
      go_wp2_with fail
      refine (Qba.out w5 HB5.out).mono ?_
      rintro e w6 ⟨rfl, hb6⟩
      have HB6 := hide (HB5.out.trans (hb6.mono HB5.out.size))
      clear hb6
      go_wp2_with fail
      refine (SM.out w6 HB6.out).mono ?_
      rintro e w7 ⟨rfl, hb7⟩
      have HB7 := hide (HB6.out.trans (hb7.mono HB6.out.size))
      clear hb7
      go_wp2_with fail
      refine (Qbc.out w7 HB7.out).mono ?_
      rintro e w8 ⟨rfl, hb8⟩
      have HB8 := hide (HB7.out.trans (hb8.mono HB7.out.size))
      clear hb8
      rcases Nat.eq_zero_or_pos a.length with hn | hn
      · have e0 : ((a.length : Int) == 0) = true := by simp [hn]
        have HN := hide hn
        clear hn
        go_wp2_with fail
        go_ret
        exact ⟨rfl, HB8.out⟩
      · have e0 : ((a.length : Int) == 0) = false := by
          have : ¬ (a.length : Int) = 0 := by omega
          simpa using this
        have T1 := hide (TA.out hn w8 HB8.out)
        have T2 := hide (TW.out hn)
        have TL : (a.take (a.length - 1)).length = a.length - 1 := by rw [List.length_take]; omega
        rw [ord_start ha hn, TL] at T1
        rw [wi_take (by omega) ha, TL] at T2
        have s1 : (0 : Int) ≤ (a.length : Int) - 1 := by omega
        have s2 : (a.length : Int) - 1 ≤ (ca : Int) := by omega
        have s3 : ((a.length : Int) - 1).toNat = a.length - 1 := by omega
        have s4 : IntKind.i64.wrap ((a.length : Int) - 1) = (a.length : Int) - 1 := by rw [IntKind.wrap_i64]; omega
        clear TL
        go_wp2_with fail
        refine T1.out.mono ?_
        rintro e w9 ⟨rfl, hb9⟩
        have HB9 := hide (HB8.out.trans (hb9.mono HB8.out.size))
        clear hb9
        go_wp2_with fail
        refine (T2.out w9 HB9.out).mono ?_
        rintro e w10 ⟨rfl, hb10⟩
        have HB10 := hide (HB9.out.trans (hb10.mono HB9.out.size))
        clear hb10
        go_wp2_with fail
        go_ret
        exact ⟨rfl, HB10.out⟩
    · rw [O3.out h1 h4] at Qac
      rw [h4] at Qbc
      clear h1 h2 h3 h4 O3
      go_enter Tryd.func6, Tryd.ntmps6
      go_wp2_with fail
      refine AW.out.mono ?_
      rintro e w1 ⟨rfl, hb1⟩
      have HB1 := hide hb1
      clear hb1
      go_wp2_with fail
      refine (Ma.out w1 HB1.out).mono ?_
      rintro e w2 ⟨rfl, hb2⟩
      have HB2 := hide (HB1.out.trans (hb2.mono HB1.out.size))
      clear hb2
      go_wp2_with fail
      refine (Mb.out w2 HB2.out).mono ?_
      rintro e w3 ⟨rfl, hb3⟩
      have HB3 := hide (HB2.out.trans (hb3.mono HB2.out.size))
      clear hb3
      go_wp2_with fail
      refine (Mc.out w3 HB3.out).mono ?_
      rintro e w4 ⟨rfl, hb4⟩
      have HB4 := hide (HB3.out.trans (hb4.mono HB3.out.size))
      clear hb4
      go_wp2_with fail
      refine (Qab.out w4 HB4.out).mono ?_
      rintro e w5 ⟨rfl, hb5⟩
      have HB5 := hide (HB4.out.trans (hb5.mono HB4.out.size))
      clear hb5
      go_wp2_with fail
      refine (Qba.out w5 HB5.out).mono ?_
      rintro e w6 ⟨rfl, hb6⟩
      have HB6 := hide (HB5.out.trans (hb6.mono HB5.out.size))
      clear hb6
      go_wp2_with fail
      refine (SM.out w6 HB6.out).mono ?_
      rintro e w7 ⟨rfl, hb7⟩
      have HB7 := hide (HB6.out.trans (hb7.mono HB6.out.size))
      clear hb7
      go_wp2_with fail
      refine (Qbc.out w7 HB7.out).mono ?_
      rintro e w8 ⟨rfl, hb8⟩
      have HB8 := hide (HB7.out.trans (hb8.mono HB7.out.size))
      clear hb8
      go_wp2_with fail
      refine (Qac.out w8 HB8.out).mono ?_
      rintro e w9 ⟨rfl, hb9⟩
      have HB9 := hide (HB8.out.trans (hb9.mono HB8.out.size))
      clear hb9
      rcases Nat.eq_zero_or_pos a.length with hn | hn
      · have e0 : ((a.length : Int) == 0) = true := by simp [hn]
        have HN := hide hn
        clear hn
        go_wp2_with fail
        go_ret
        exact ⟨rfl, HB9.out⟩
      · have e0 : ((a.length : Int) == 0) = false := by
          have : ¬ (a.length : Int) = 0 := by omega
          simpa using this
        have T1 := hide (TA.out hn w9 HB9.out)
        have T2 := hide (TW.out hn)
        have TL : (a.take (a.length - 1)).length = a.length - 1 := by rw [List.length_take]; omega
        rw [ord_start ha hn, TL] at T1
        rw [wi_take (by omega) ha, TL] at T2
        have s1 : (0 : Int) ≤ (a.length : Int) - 1 := by omega
        have s2 : (a.length : Int) - 1 ≤ (ca : Int) := by omega
        have s3 : ((a.length : Int) - 1).toNat = a.length - 1 := by omega
        have s4 : IntKind.i64.wrap ((a.length : Int) - 1) = (a.length : Int) - 1 := by rw [IntKind.wrap_i64]; omega
        clear TL
        go_wp2_with fail
        refine T1.out.mono ?_
        rintro e w10 ⟨rfl, hb10⟩
        have HB10 := hide (HB9.out.trans (hb10.mono HB9.out.size))
        clear hb10
        go_wp2_with fail
        refine (T2.out w10 HB10.out).mono ?_
        rintro e w11 ⟨rfl, hb11⟩
        have HB11 := hide (HB10.out.trans (hb11.mono HB10.out.size))
        clear hb11
        go_wp2_with fail
        go_ret
        exact ⟨rfl, HB11.out⟩
  · rw [h1] at Qab
    rw [h2] at Qba
    rw [h3] at SM
    clear h1 h2 h3 O3
    go_enter Tryd.func6, Tryd.ntmps6
    go_wp2_with fail
    refine AW.out.mono ?_
    rintro e w1 ⟨rfl, hb1⟩
    have HB1 := hide hb1
    clear hb1
    go_wp2_with fail
    refine (Ma.out w1 HB1.out).mono ?_
    rintro e w2 ⟨rfl, hb2⟩
    have HB2 := hide (HB1.out.trans (hb2.mono HB1.out.size))
    clear hb2
    go_wp2_with fail
    refine (Mb.out w2 HB2.out).mono ?_
    rintro e w3 ⟨rfl, hb3⟩
    have HB3 := hide (HB2.out.trans (hb3.mono HB2.out.size))
    clear hb3
    go_wp2_with fail
    refine (Mc.out w3 HB3.out).mono ?_
    rintro e w4 ⟨rfl, hb4⟩
    have HB4 := hide (HB3.out.trans (hb4.mono HB3.out.size))
    clear hb4
    go_wp2_with fail
    refine (Qab.out w4 HB4.out).mono ?_
    rintro e w5 ⟨rfl, hb5⟩
    have HB5 := hide (HB4.out.trans (hb5.mono HB4.out.size))
    clear hb5
    go_wp2_with fail
    refine (Qba.out w5 HB5.out).mono ?_
    rintro e w6 ⟨rfl, hb6⟩
    have HB6 := hide (HB5.out.trans (hb6.mono HB5.out.size))
    clear hb6
    go_wp2_with fail
    refine (SM.out w6 HB6.out).mono ?_
    rintro e w7 ⟨rfl, hb7⟩
    have HB7 := hide (HB6.out.trans (hb7.mono HB6.out.size))
    clear hb7
    rcases Nat.eq_zero_or_pos a.length with hn | hn
    · have e0 : ((a.length : Int) == 0) = true := by simp [hn]
      have HN := hide hn
      clear hn
      go_wp2_with fail
      go_ret
      exact ⟨rfl, HB7.out⟩
    · have e0 : ((a.length : Int) == 0) = false := by
        have : ¬ (a.length : Int) = 0 := by omega
        simpa using this
      have T1 := hide (TA.out hn w7 HB7.out)
      have T2 := hide (TW.out hn)
      have TL : (a.take (a.length - 1)).length = a.length - 1 := by rw [List.length_take]; omega
      rw [ord_start ha hn, TL] at T1
      rw [wi_take (by omega) ha, TL] at T2
      have s1 : (0 : Int) ≤ (a.length : Int) - 1 := by omega
      have s2 : (a.length : Int) - 1 ≤ (ca : Int) := by omega
      have s3 : ((a.length : Int) - 1).toNat = a.length - 1 := by omega
      have s4 : IntKind.i64.wrap ((a.length : Int) - 1) = (a.length : Int) - 1 := by rw [IntKind.wrap_i64]; omega
      clear TL
      go_wp2_with fail
      refine T1.out.mono ?_
      rintro e w8 ⟨rfl, hb8⟩
      have HB8 := hide (HB7.out.trans (hb8.mono HB7.out.size))
      clear hb8
      go_wp2_with fail
      refine (T2.out w8 HB8.out).mono ?_
      rintro e w9 ⟨rfl, hb9⟩
      have HB9 := hide (HB8.out.trans (hb9.mono HB8.out.size))
      clear hb9
      go_wp2_with fail
      go_ret
      exact ⟨rfl, HB9.out⟩
  · rw [h1] at Qab
    rw [h2] at Qba
    rw [h3] at SM
    clear h1 h2 h3 O3
    go_enter Tryd.func6, Tryd.ntmps6
    go_wp2_with fail
    refine AW.out.mono ?_
    rintro e w1 ⟨rfl, hb1⟩
    have HB1 := hide hb1
    clear hb1
    go_wp2_with fail
    refine (Ma.out w1 HB1.out).mono ?_
    rintro e w2 ⟨rfl, hb2⟩
    have HB2 := hide (HB1.out.trans (hb2.mono HB1.out.size))
    clear hb2
    go_wp2_with fail
    refine (Mb.out w2 HB2.out).mono ?_
    rintro e w3 ⟨rfl, hb3⟩
    have HB3 := hide (HB2.out.trans (hb3.mono HB2.out.size))
    clear hb3
    go_wp2_with fail
    refine (Mc.out w3 HB3.out).mono ?_
    rintro e w4 ⟨rfl, hb4⟩
    have HB4 := hide (HB3.out.trans (hb4.mono HB3.out.size))
    clear hb4
    go_wp2_with fail
    refine (Qab.out w4 HB4.out).mono ?_
    rintro e w5 ⟨rfl, hb5⟩
    have HB5 := hide (HB4.out.trans (hb5.mono HB4.out.size))
    clear hb5
    go_wp2_with fail
    refine (Qba.out w5 HB5.out).mono ?_
    rintro e w6 ⟨rfl, hb6⟩
    have HB6 := hide (HB5.out.trans (hb6.mono HB5.out.size))
    clear hb6
    go_wp2_with fail
    refine (SM.out w6 HB6.out).mono ?_
    rintro e w7 ⟨rfl, hb7⟩
    have HB7 := hide (HB6.out.trans (hb7.mono HB6.out.size))
    clear hb7
    rcases Nat.eq_zero_or_pos a.length with hn | hn
    · have e0 : ((a.length : Int) == 0) = true := by simp [hn]
      have HN := hide hn
      clear hn
      go_wp2_with fail
      go_ret
      exact ⟨rfl, HB7.out⟩
    · have e0 : ((a.length : Int) == 0) = false := by
        have : ¬ (a.length : Int) = 0 := by omega
        simpa using this
      have T1 := hide (TA.out hn w7 HB7.out)
      have T2 := hide (TW.out hn)
      have TL : (a.take (a.length - 1)).length = a.length - 1 := by rw [List.length_take]; omega
      rw [ord_start ha hn, TL] at T1
      rw [wi_take (by omega) ha, TL] at T2
      have s1 : (0 : Int) ≤ (a.length : Int) - 1 := by omega
      have s2 : (a.length : Int) - 1 ≤ (ca : Int) := by omega
      have s3 : ((a.length : Int) - 1).toNat = a.length - 1 := by omega
      have s4 : IntKind.i64.wrap ((a.length : Int) - 1) = (a.length : Int) - 1 := by rw [IntKind.wrap_i64]; omega
      clear TL
      go_wp2_with fail
      refine T1.out.mono ?_
      rintro e w8 ⟨rfl, hb8⟩
      have HB8 := hide (HB7.out.trans (hb8.mono HB7.out.size))
      clear hb8
      go_wp2_with fail
      refine (T2.out w8 HB8.out).mono ?_
      rintro e w9 ⟨rfl, hb9⟩
      have HB9 := hide (HB8.out.trans (hb9.mono HB8.out.size))
      clear hb9
      go_wp2_with fail
      go_ret
      exact ⟨rfl, HB9.out⟩
end Go.Proofs.YtdojmjbknkbpoaaDoor.SignOrderW
