/- The walk of the statement SignJoined. -/
import Derived.Test.YtnmaclpjddafnaaDoorRows
import Derived.Test.YtnmaclpjddafnaaDoorSignRow
import Derived.Test.YtnmaclpjddafnaaDoorSignVh
namespace Go.Proofs.YtnmaclpjddafnaaDoor.SignJoinedW
open Go.Joins Go.ChangeShapes Go.WideShapes Go.RowKit Go.Deep Go.Proofs.YtnmaclpjddafnaaDoor Go.Proofs.YtnmaclpjddafnaaDoor.Jn
set_option linter.unusedVariables false
set_option linter.unusedSimpArgs false
theorem crow_none (w : World) : CRow w none [] := ⟨Nat.zero_le _, fun h => absurd h (Nat.lt_irrefl 0)⟩
theorem join_crow {a b l : List Ch} {B : Nat} {w : World} {V : Option Addr} (h : IsJoin a b l) (hr : JRow B w V l) (ha : a.length ≤ 200) (hb : b.length ≤ 200) : CRow w V l :=
  hr.crow (fun t ht => mayC_ok (((mayL_iff l).1 h.1).1 t ht)) (by have := h.len; unfold maxLen; omega)
set_option maxRecDepth 100000 in
set_option maxHeartbeats 16000000 in
theorem walk {H : Type} {enc : TypeId × Value → H} {base : Nat} (W : World) (hp : Pow W) (v0 : Value) (d0 : DataW H) (p0 : List MemPlace) (o0 : Value.okWide Tryd.prog W .any base 22 v0) (r0 : DataW.Trod enc Tryd.prog W 0 (fun _ => true) true 22 v0 d0 p0) (v1 : Value) (d1 : DataW H) (p1 : List MemPlace) (o1 : Value.okWide Tryd.prog W .any base 22 v1) (r1 : DataW.Trod enc Tryd.prog W 0 (fun _ => true) true 22 v1 d1 p1) (v2 : Value) (d2 : DataW H) (p2 : List MemPlace) (o2 : Value.okWide Tryd.prog W .any base 22 v2) (r2 : DataW.Trod enc Tryd.prog W 0 (fun _ => true) true 22 v2 d2 p2) :
    Calls Tryd.prog 3 #[v0, v1, v2] W fun e w' => e = .returned (.bool true) ∧ Below W.heap.size W w' := by
  obtain ⟨A, a, ca, rfl, ha, _, _⟩ := own_rowC o0 r0
  obtain ⟨B, b, cb, rfl, hb, _, _⟩ := own_rowC o1 r1
  obtain ⟨C, c, cc, rfl, hc, _, _⟩ := own_rowC o2 r2
  have AW := hide (awake_a W hp)
  clear o0 r0 o1 r1 o2 r2 hp
  by_cases hla : a.length ≤ 200
  rotate_left
  · have gI : (200 : Int) < (a.length : Int) := by omega
    clear ha hb hc
    go_enter Tryd.func3, Tryd.ntmps3
    go_wp2_with fail
    refine AW.out.mono ?_
    rintro e w1 ⟨rfl, hb1⟩
    have HB1 := hide hb1
    clear hb1
    go_wp2_with fail
    go_ret
    exact ⟨rfl, HB1.out⟩
  have ga : ¬ (200 : Int) < (a.length : Int) := by omega
  by_cases hlb : b.length ≤ 200
  rotate_left
  · have gI : (200 : Int) < (b.length : Int) := by omega
    clear ha hb hc
    go_enter Tryd.func3, Tryd.ntmps3
    go_wp2_with fail
    refine AW.out.mono ?_
    rintro e w1 ⟨rfl, hb1⟩
    have HB1 := hide hb1
    clear hb1
    go_wp2_with fail
    go_ret
    exact ⟨rfl, HB1.out⟩
  have gb : ¬ (200 : Int) < (b.length : Int) := by omega
  by_cases hlc : c.length ≤ 200
  rotate_left
  · have gI : (200 : Int) < (c.length : Int) := by omega
    clear ha hb hc
    go_enter Tryd.func3, Tryd.ntmps3
    go_wp2_with fail
    refine AW.out.mono ?_
    rintro e w1 ⟨rfl, hb1⟩
    have HB1 := hide hb1
    clear hb1
    go_wp2_with fail
    go_ret
    exact ⟨rfl, HB1.out⟩
  have gc : ¬ (200 : Int) < (c.length : Int) := by omega
  have Ma := hide fun (w' : World) (h : Below W.heap.size W w') => May_a A ca a w' (ha.below h) (by omega)
  have Mb := hide fun (w' : World) (h : Below W.heap.size W w') => May_a B cb b w' (hb.below h) (by omega)
  have Jab := hide fun (w' : World) (h : Below W.heap.size W w') => Join_a A B ca cb a b w' (ha.below h) (hb.below h) (by omega) (by omega)
  have Jba := hide fun (w' : World) (h : Below W.heap.size W w') => Join_a B A cb ca b a w' (hb.below h) (ha.below h) (by omega) (by omega)
  have Gab := hide fun (w' : World) (h : Below W.heap.size W w') => Agree_a A B ca cb a b w' (ha.below h) (hb.below h) (by omega) (by omega)
  have Gba := hide fun (w' : World) (h : Below W.heap.size W w') => Agree_a B A cb ca b a w' (hb.below h) (ha.below h) (by omega) (by omega)
  have Wac := hide fun (w' : World) (h : Below W.heap.size W w') => Within_a A C ca cc a c w' (ha.below h) (hc.below h) (by omega) (by omega)
  have Wbc := hide fun (w' : World) (h : Below W.heap.size W w') => Within_a B C cb cc b c w' (hb.below h) (hc.below h) (by omega) (by omega)
  have HA := hide ha
  have HB := hide hb
  have HC := hide hc
  clear ha hb hc
  rcases hma : mayL a with _ | _
  · rw [hma] at Ma
    go_enter Tryd.func3, Tryd.ntmps3
    go_wp2_with fail
    refine AW.out.mono ?_
    rintro e w1 ⟨rfl, hb1⟩
    have HB1 := hide hb1
    clear hb1
    go_wp2_with fail
    refine (Ma.out w1 HB1.out).mono ?_
    rintro e w2 ⟨rfl, hb2⟩
    have HB2 := hide (HB1.out.trans (hb2.mono HB1.out.size))
    clear hb2
    go_wp2_with fail
    go_ret
    exact ⟨rfl, HB2.out⟩
  rw [hma] at Ma
  rcases hmb : mayL b with _ | _
  · rw [hmb] at Mb
    go_enter Tryd.func3, Tryd.ntmps3
    go_wp2_with fail
    refine AW.out.mono ?_
    rintro e w1 ⟨rfl, hb1⟩
    have HB1 := hide hb1
    clear hb1
    go_wp2_with fail
    refine (Ma.out w1 HB1.out).mono ?_
    rintro e w2 ⟨rfl, hb2⟩
    have HB2 := hide (HB1.out.trans (hb2.mono HB1.out.size))
    clear hb2
    go_wp2_with fail
    refine (Mb.out w2 HB2.out).mono ?_
    rintro e w3 ⟨rfl, hb3⟩
    have HB3 := hide (HB2.out.trans (hb3.mono HB2.out.size))
    clear hb3
    go_wp2_with fail
    go_ret
    exact ⟨rfl, HB3.out⟩
  rw [hmb] at Mb
  have HMA := hide hma
  have HMB := hide hmb
  clear hma hmb
  rcases hag : agL a b with _ | _
  · have hag2 : agL b a = false := by rw [← ag_comm]; exact hag
    rw [hag] at Gab
    rw [hag2] at Gba
    go_enter Tryd.func3, Tryd.ntmps3
    go_wp2_with fail
    refine AW.out.mono ?_
    rintro e w1 ⟨rfl, hb1⟩
    have HB1 := hide hb1
    clear hb1
    go_wp2_with fail
    refine (Ma.out w1 HB1.out).mono ?_
    rintro e w2 ⟨rfl, hb2⟩
    have HB2 := hide (HB1.out.trans (hb2.mono HB1.out.size))
    clear hb2
    go_wp2_with fail
    refine (Mb.out w2 HB2.out).mono ?_
    rintro e w3 ⟨rfl, hb3⟩
    have HB3 := hide (HB2.out.trans (hb3.mono HB2.out.size))
    clear hb3
    go_wp2_with fail
    refine (Jab.out w3 HB3.out).mono ?_
    rintro e w4 ⟨⟨_, rfl⟩ | ⟨h9, _⟩, hb4⟩
    rotate_left
    · rw [hag] at h9; cases h9
    have HB4 := hide (HB3.out.trans (hb4.mono HB3.out.size))
    clear hb4
    go_wp2_with fail
    refine (Jba.out w4 HB4.out).mono ?_
    rintro e w5 ⟨⟨_, rfl⟩ | ⟨h9, _⟩, hb5⟩
    rotate_left
    · rw [hag2] at h9; cases h9
    have HB5 := hide (HB4.out.trans (hb5.mono HB4.out.size))
    clear hb5 hag hag2
    go_wp2_with fail
    refine (Gab.out w5 HB5.out).mono ?_
    rintro e w6 ⟨rfl, hb6⟩
    have HB6 := hide (HB5.out.trans (hb6.mono HB5.out.size))
    clear hb6
    have SM := hide (same_b none none 0 0 [] [] w6 (crow_none w6) (crow_none w6) (by simp) (by simp))
    rw [decide_eq_true rfl] at SM
    go_wp2_with fail
    refine (SM.out).mono ?_
    rintro e w7 ⟨rfl, hb7⟩
    have HB7 := hide (HB6.out.trans (hb7.mono HB6.out.size))
    clear hb7
    go_wp2_with fail
    refine (Gab.out w7 HB7.out).mono ?_
    rintro e w8 ⟨rfl, hb8⟩
    have HB8 := hide (HB7.out.trans (hb8.mono HB7.out.size))
    clear hb8
    go_wp2_with fail
    refine (Gba.out w8 HB8.out).mono ?_
    rintro e w9 ⟨rfl, hb9⟩
    have HB9 := hide (HB8.out.trans (hb9.mono HB8.out.size))
    clear hb9
    go_wp2_with fail
    go_ret
    exact ⟨rfl, HB9.out⟩
  have hag2 : agL b a = true := by rw [← ag_comm]; exact hag
  rw [hag] at Gab
  rw [hag2] at Gba
  rcases hwa : wiL a c with _ | _
  · rw [hwa] at Wac
    go_enter Tryd.func3, Tryd.ntmps3
    go_wp2_with fail
    refine AW.out.mono ?_
    rintro e w1 ⟨rfl, hb1⟩
    have HB1 := hide hb1
    clear hb1
    go_wp2_with fail
    refine (Ma.out w1 HB1.out).mono ?_
    rintro e w2 ⟨rfl, hb2⟩
    have HB2 := hide (HB1.out.trans (hb2.mono HB1.out.size))
    clear hb2
    go_wp2_with fail
    refine (Mb.out w2 HB2.out).mono ?_
    rintro e w3 ⟨rfl, hb3⟩
    have HB3 := hide (HB2.out.trans (hb3.mono HB2.out.size))
    clear hb3
    go_wp2_with fail
    refine (Jab.out w3 HB3.out).mono ?_
    rintro e w4 ⟨⟨h9, _⟩ | ⟨_, l, V, c9, hJ, rfl, hR⟩, hb4⟩
    · rw [hag] at h9; cases h9
    have HB4 := hide (HB3.out.trans (hb4.mono HB3.out.size))
    have CR4 := hide (join_crow hJ hR (by omega) (by omega))
    have HJ := hide hJ
    clear hb4 hR hJ
    go_wp2_with fail
    refine (Jba.out w4 HB4.out).mono ?_
    rintro e w5 ⟨⟨h9, _⟩ | ⟨_, m, V2, c8, hJ2, rfl, hR2⟩, hb5⟩
    · rw [hag2] at h9; cases h9
    have elm := hJ2.one HJ.out
    subst elm
    have HB5 := hide (HB4.out.trans (hb5.mono HB4.out.size))
    have CR5 := hide (CR4.out.below hb5)
    have CS5 := hide (join_crow hJ2 hR2 (by omega) (by omega))
    have HK5 := hide (Below.refl w5.heap.size w5)
    have hll : m.length ≤ a.length + b.length := HJ.out.len
    have hllI : ¬ (a.length : Int) + (b.length : Int) < (m.length : Int) := by omega
    have SM := hide fun (w' : World) (h : Below w5.heap.size w5 w') => same_b V V2 c9 c8 m m w' (CR5.out.below h) (CS5.out.below h) (by omega) (by omega)
    rw [decide_eq_true rfl] at SM
    have ML := hide fun (w' : World) (h : Below w5.heap.size w5 w') => May_a V c9 m w' (CR5.out.below h) (by omega)
    rw [HJ.out.1] at ML
    have WA := hide fun (w' : World) (h : Below w5.heap.size w5 w') (hW : Below W.heap.size W w') => Within_a A V ca c9 a m w' (HA.out.below hW) (CR5.out.below h) (by omega) (by omega)
    rw [HJ.out.left HMA.out] at WA
    have WB := hide fun (w' : World) (h : Below w5.heap.size w5 w') (hW : Below W.heap.size W w') => Within_a B V cb c9 b m w' (HB.out.below hW) (CR5.out.below h) (by omega) (by omega)
    rw [HJ.out.right HMB.out] at WB
    have WL := hide fun (w' : World) (h : Below w5.heap.size w5 w') (hW : Below W.heap.size W w') => Within_a V C c9 cc m c w' (CR5.out.below h) (HC.out.below hW) (by omega) (by omega)
    clear hb5 hJ2 hR2 hag hag2 CR4
    go_wp2_with fail
    refine (Gab.out w5 HB5.out).mono ?_
    rintro e w6 ⟨rfl, hb6⟩
    have HB6 := hide (HB5.out.trans (hb6.mono HB5.out.size))
    have HK6 := hide (HK5.out.trans (hb6.mono HK5.out.size))
    clear hb6
    go_wp2_with fail
    refine (SM.out w6 HK6.out).mono ?_
    rintro e w7 ⟨rfl, hb7⟩
    have HB7 := hide (HB6.out.trans (hb7.mono HB6.out.size))
    have HK7 := hide (HK6.out.trans (hb7.mono HK6.out.size))
    clear hb7
    go_wp2_with fail
    refine (Gab.out w7 HB7.out).mono ?_
    rintro e w8 ⟨rfl, hb8⟩
    have HB8 := hide (HB7.out.trans (hb8.mono HB7.out.size))
    have HK8 := hide (HK7.out.trans (hb8.mono HK7.out.size))
    clear hb8
    go_wp2_with fail
    refine (Gba.out w8 HB8.out).mono ?_
    rintro e w9 ⟨rfl, hb9⟩
    have HB9 := hide (HB8.out.trans (hb9.mono HB8.out.size))
    have HK9 := hide (HK8.out.trans (hb9.mono HK8.out.size))
    clear hb9
    go_wp2_with fail
    refine (ML.out w9 HK9.out).mono ?_
    rintro e w10 ⟨rfl, hb10⟩
    have HB10 := hide (HB9.out.trans (hb10.mono HB9.out.size))
    have HK10 := hide (HK9.out.trans (hb10.mono HK9.out.size))
    clear hb10
    go_wp2_with fail
    refine (WA.out w10 HK10.out HB10.out).mono ?_
    rintro e w11 ⟨rfl, hb11⟩
    have HB11 := hide (HB10.out.trans (hb11.mono HB10.out.size))
    have HK11 := hide (HK10.out.trans (hb11.mono HK10.out.size))
    clear hb11
    go_wp2_with fail
    refine (WB.out w11 HK11.out HB11.out).mono ?_
    rintro e w12 ⟨rfl, hb12⟩
    have HB12 := hide (HB11.out.trans (hb12.mono HB11.out.size))
    have HK12 := hide (HK11.out.trans (hb12.mono HK11.out.size))
    clear hb12
    go_wp2_with fail
    refine (Wac.out w12 HB12.out).mono ?_
    rintro e w13 ⟨rfl, hb13⟩
    have HB13 := hide (HB12.out.trans (hb13.mono HB12.out.size))
    have HK13 := hide (HK12.out.trans (hb13.mono HK12.out.size))
    clear hb13
    go_wp2_with fail
    go_ret
    exact ⟨rfl, HB13.out⟩
  rw [hwa] at Wac
  rcases hwb : wiL b c with _ | _
  · rw [hwb] at Wbc
    go_enter Tryd.func3, Tryd.ntmps3
    go_wp2_with fail
    refine AW.out.mono ?_
    rintro e w1 ⟨rfl, hb1⟩
    have HB1 := hide hb1
    clear hb1
    go_wp2_with fail
    refine (Ma.out w1 HB1.out).mono ?_
    rintro e w2 ⟨rfl, hb2⟩
    have HB2 := hide (HB1.out.trans (hb2.mono HB1.out.size))
    clear hb2
    go_wp2_with fail
    refine (Mb.out w2 HB2.out).mono ?_
    rintro e w3 ⟨rfl, hb3⟩
    have HB3 := hide (HB2.out.trans (hb3.mono HB2.out.size))
    clear hb3
    go_wp2_with fail
    refine (Jab.out w3 HB3.out).mono ?_
    rintro e w4 ⟨⟨h9, _⟩ | ⟨_, l, V, c9, hJ, rfl, hR⟩, hb4⟩
    · rw [hag] at h9; cases h9
    have HB4 := hide (HB3.out.trans (hb4.mono HB3.out.size))
    have CR4 := hide (join_crow hJ hR (by omega) (by omega))
    have HJ := hide hJ
    clear hb4 hR hJ
    go_wp2_with fail
    refine (Jba.out w4 HB4.out).mono ?_
    rintro e w5 ⟨⟨h9, _⟩ | ⟨_, m, V2, c8, hJ2, rfl, hR2⟩, hb5⟩
    · rw [hag2] at h9; cases h9
    have elm := hJ2.one HJ.out
    subst elm
    have HB5 := hide (HB4.out.trans (hb5.mono HB4.out.size))
    have CR5 := hide (CR4.out.below hb5)
    have CS5 := hide (join_crow hJ2 hR2 (by omega) (by omega))
    have HK5 := hide (Below.refl w5.heap.size w5)
    have hll : m.length ≤ a.length + b.length := HJ.out.len
    have hllI : ¬ (a.length : Int) + (b.length : Int) < (m.length : Int) := by omega
    have SM := hide fun (w' : World) (h : Below w5.heap.size w5 w') => same_b V V2 c9 c8 m m w' (CR5.out.below h) (CS5.out.below h) (by omega) (by omega)
    rw [decide_eq_true rfl] at SM
    have ML := hide fun (w' : World) (h : Below w5.heap.size w5 w') => May_a V c9 m w' (CR5.out.below h) (by omega)
    rw [HJ.out.1] at ML
    have WA := hide fun (w' : World) (h : Below w5.heap.size w5 w') (hW : Below W.heap.size W w') => Within_a A V ca c9 a m w' (HA.out.below hW) (CR5.out.below h) (by omega) (by omega)
    rw [HJ.out.left HMA.out] at WA
    have WB := hide fun (w' : World) (h : Below w5.heap.size w5 w') (hW : Below W.heap.size W w') => Within_a B V cb c9 b m w' (HB.out.below hW) (CR5.out.below h) (by omega) (by omega)
    rw [HJ.out.right HMB.out] at WB
    have WL := hide fun (w' : World) (h : Below w5.heap.size w5 w') (hW : Below W.heap.size W w') => Within_a V C c9 cc m c w' (CR5.out.below h) (HC.out.below hW) (by omega) (by omega)
    clear hb5 hJ2 hR2 hag hag2 CR4
    go_wp2_with fail
    refine (Gab.out w5 HB5.out).mono ?_
    rintro e w6 ⟨rfl, hb6⟩
    have HB6 := hide (HB5.out.trans (hb6.mono HB5.out.size))
    have HK6 := hide (HK5.out.trans (hb6.mono HK5.out.size))
    clear hb6
    go_wp2_with fail
    refine (SM.out w6 HK6.out).mono ?_
    rintro e w7 ⟨rfl, hb7⟩
    have HB7 := hide (HB6.out.trans (hb7.mono HB6.out.size))
    have HK7 := hide (HK6.out.trans (hb7.mono HK6.out.size))
    clear hb7
    go_wp2_with fail
    refine (Gab.out w7 HB7.out).mono ?_
    rintro e w8 ⟨rfl, hb8⟩
    have HB8 := hide (HB7.out.trans (hb8.mono HB7.out.size))
    have HK8 := hide (HK7.out.trans (hb8.mono HK7.out.size))
    clear hb8
    go_wp2_with fail
    refine (Gba.out w8 HB8.out).mono ?_
    rintro e w9 ⟨rfl, hb9⟩
    have HB9 := hide (HB8.out.trans (hb9.mono HB8.out.size))
    have HK9 := hide (HK8.out.trans (hb9.mono HK8.out.size))
    clear hb9
    go_wp2_with fail
    refine (ML.out w9 HK9.out).mono ?_
    rintro e w10 ⟨rfl, hb10⟩
    have HB10 := hide (HB9.out.trans (hb10.mono HB9.out.size))
    have HK10 := hide (HK9.out.trans (hb10.mono HK9.out.size))
    clear hb10
    go_wp2_with fail
    refine (WA.out w10 HK10.out HB10.out).mono ?_
    rintro e w11 ⟨rfl, hb11⟩
    have HB11 := hide (HB10.out.trans (hb11.mono HB10.out.size))
    have HK11 := hide (HK10.out.trans (hb11.mono HK10.out.size))
    clear hb11
    go_wp2_with fail
    refine (WB.out w11 HK11.out HB11.out).mono ?_
    rintro e w12 ⟨rfl, hb12⟩
    have HB12 := hide (HB11.out.trans (hb12.mono HB11.out.size))
    have HK12 := hide (HK11.out.trans (hb12.mono HK11.out.size))
    clear hb12
    go_wp2_with fail
    refine (Wac.out w12 HB12.out).mono ?_
    rintro e w13 ⟨rfl, hb13⟩
    have HB13 := hide (HB12.out.trans (hb13.mono HB12.out.size))
    have HK13 := hide (HK12.out.trans (hb13.mono HK12.out.size))
    clear hb13
    go_wp2_with fail
    refine (Wbc.out w13 HB13.out).mono ?_
    rintro e w14 ⟨rfl, hb14⟩
    have HB14 := hide (HB13.out.trans (hb14.mono HB13.out.size))
    have HK14 := hide (HK13.out.trans (hb14.mono HK13.out.size))
    clear hb14
    go_wp2_with fail
    go_ret
    exact ⟨rfl, HB14.out⟩
  · rw [hwb] at Wbc
    have HWA := hide hwa
    have HWB := hide hwb
    go_enter Tryd.func3, Tryd.ntmps3
    go_wp2_with fail
    refine AW.out.mono ?_
    rintro e w1 ⟨rfl, hb1⟩
    have HB1 := hide hb1
    clear hb1
    go_wp2_with fail
    refine (Ma.out w1 HB1.out).mono ?_
    rintro e w2 ⟨rfl, hb2⟩
    have HB2 := hide (HB1.out.trans (hb2.mono HB1.out.size))
    clear hb2
    go_wp2_with fail
    refine (Mb.out w2 HB2.out).mono ?_
    rintro e w3 ⟨rfl, hb3⟩
    have HB3 := hide (HB2.out.trans (hb3.mono HB2.out.size))
    clear hb3
    go_wp2_with fail
    refine (Jab.out w3 HB3.out).mono ?_
    rintro e w4 ⟨⟨h9, _⟩ | ⟨_, l, V, c9, hJ, rfl, hR⟩, hb4⟩
    · rw [hag] at h9; cases h9
    have HB4 := hide (HB3.out.trans (hb4.mono HB3.out.size))
    have CR4 := hide (join_crow hJ hR (by omega) (by omega))
    have HJ := hide hJ
    clear hb4 hR hJ
    go_wp2_with fail
    refine (Jba.out w4 HB4.out).mono ?_
    rintro e w5 ⟨⟨h9, _⟩ | ⟨_, m, V2, c8, hJ2, rfl, hR2⟩, hb5⟩
    · rw [hag2] at h9; cases h9
    have elm := hJ2.one HJ.out
    subst elm
    have HB5 := hide (HB4.out.trans (hb5.mono HB4.out.size))
    have CR5 := hide (CR4.out.below hb5)
    have CS5 := hide (join_crow hJ2 hR2 (by omega) (by omega))
    have HK5 := hide (Below.refl w5.heap.size w5)
    have hll : m.length ≤ a.length + b.length := HJ.out.len
    have hllI : ¬ (a.length : Int) + (b.length : Int) < (m.length : Int) := by omega
    have SM := hide fun (w' : World) (h : Below w5.heap.size w5 w') => same_b V V2 c9 c8 m m w' (CR5.out.below h) (CS5.out.below h) (by omega) (by omega)
    rw [decide_eq_true rfl] at SM
    have ML := hide fun (w' : World) (h : Below w5.heap.size w5 w') => May_a V c9 m w' (CR5.out.below h) (by omega)
    rw [HJ.out.1] at ML
    have WA := hide fun (w' : World) (h : Below w5.heap.size w5 w') (hW : Below W.heap.size W w') => Within_a A V ca c9 a m w' (HA.out.below hW) (CR5.out.below h) (by omega) (by omega)
    rw [HJ.out.left HMA.out] at WA
    have WB := hide fun (w' : World) (h : Below w5.heap.size w5 w') (hW : Below W.heap.size W w') => Within_a B V cb c9 b m w' (HB.out.below hW) (CR5.out.below h) (by omega) (by omega)
    rw [HJ.out.right HMB.out] at WB
    have WL := hide fun (w' : World) (h : Below w5.heap.size w5 w') (hW : Below W.heap.size W w') => Within_a V C c9 cc m c w' (CR5.out.below h) (HC.out.below hW) (by omega) (by omega)
    clear hb5 hJ2 hR2 hag hag2 CR4
    go_wp2_with fail
    refine (Gab.out w5 HB5.out).mono ?_
    rintro e w6 ⟨rfl, hb6⟩
    have HB6 := hide (HB5.out.trans (hb6.mono HB5.out.size))
    have HK6 := hide (HK5.out.trans (hb6.mono HK5.out.size))
    clear hb6
    go_wp2_with fail
    refine (SM.out w6 HK6.out).mono ?_
    rintro e w7 ⟨rfl, hb7⟩
    have HB7 := hide (HB6.out.trans (hb7.mono HB6.out.size))
    have HK7 := hide (HK6.out.trans (hb7.mono HK6.out.size))
    clear hb7
    go_wp2_with fail
    refine (Gab.out w7 HB7.out).mono ?_
    rintro e w8 ⟨rfl, hb8⟩
    have HB8 := hide (HB7.out.trans (hb8.mono HB7.out.size))
    have HK8 := hide (HK7.out.trans (hb8.mono HK7.out.size))
    clear hb8
    go_wp2_with fail
    refine (Gba.out w8 HB8.out).mono ?_
    rintro e w9 ⟨rfl, hb9⟩
    have HB9 := hide (HB8.out.trans (hb9.mono HB8.out.size))
    have HK9 := hide (HK8.out.trans (hb9.mono HK8.out.size))
    clear hb9
    go_wp2_with fail
    refine (ML.out w9 HK9.out).mono ?_
    rintro e w10 ⟨rfl, hb10⟩
    have HB10 := hide (HB9.out.trans (hb10.mono HB9.out.size))
    have HK10 := hide (HK9.out.trans (hb10.mono HK9.out.size))
    clear hb10
    go_wp2_with fail
    refine (WA.out w10 HK10.out HB10.out).mono ?_
    rintro e w11 ⟨rfl, hb11⟩
    have HB11 := hide (HB10.out.trans (hb11.mono HB10.out.size))
    have HK11 := hide (HK10.out.trans (hb11.mono HK10.out.size))
    clear hb11
    go_wp2_with fail
    refine (WB.out w11 HK11.out HB11.out).mono ?_
    rintro e w12 ⟨rfl, hb12⟩
    have HB12 := hide (HB11.out.trans (hb12.mono HB11.out.size))
    have HK12 := hide (HK11.out.trans (hb12.mono HK11.out.size))
    clear hb12
    rw [HJ.out.within HWA.out HWB.out] at WL
    go_wp2_with fail
    refine (Wac.out w12 HB12.out).mono ?_
    rintro e w13 ⟨rfl, hb13⟩
    have HB13 := hide (HB12.out.trans (hb13.mono HB12.out.size))
    have HK13 := hide (HK12.out.trans (hb13.mono HK12.out.size))
    clear hb13
    go_wp2_with fail
    refine (Wbc.out w13 HB13.out).mono ?_
    rintro e w14 ⟨rfl, hb14⟩
    have HB14 := hide (HB13.out.trans (hb14.mono HB13.out.size))
    have HK14 := hide (HK13.out.trans (hb14.mono HK13.out.size))
    clear hb14
    go_wp2_with fail
    refine (WL.out w14 HK14.out HB14.out).mono ?_
    rintro e w15 ⟨rfl, hb15⟩
    have HB15 := hide (HB14.out.trans (hb15.mono HB14.out.size))
    have HK15 := hide (HK14.out.trans (hb15.mono HK14.out.size))
    clear hb15
    go_wp2_with fail
    go_ret
    exact ⟨rfl, HB15.out⟩
end Go.Proofs.YtnmaclpjddafnaaDoor.SignJoinedW
