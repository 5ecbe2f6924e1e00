/- The walk of the statement VerdictKinds: of any two verdicts; without conditions. -/
import Derived.Test.YtnmddeplchideaaRows
import Derived.Test.YtnmddeplchideaaTreeWords
import Derived.Test.YtnmddeplchideaaQuietBelow
import Derived.Test.YtnmddeplchideaaVerdictE
import Derived.Deep.RegionWith
namespace Go.Proofs.Ytnmddeplchideaa.VerdictKindsW
open Go.Joins Go.ChangeShapes Go.WideShapes Go.RowKit Go.Deep Go.Proofs.Ytnmddeplchideaa
set_option linter.unusedVariables false
set_option linter.unusedSimpArgs false
def largeB (v : Vd) : Bool := decide (100 < v.n0) || decide (100 < v.n1) || decide (100 < v.n2) || decide (100 < v.n3) || decide (100 < v.n4) || decide (100 < v.n5)
set_option maxRecDepth 100000 in
set_option maxHeartbeats 4000000 in
theorem large_any (v : Vd) (w : World) : Calls Try.prog 15 #[.agg #[.slice v.A0 v.n0 v.c0, .slice v.A1 v.n1 v.c1, .slice v.A2 v.n2 v.c2, .slice v.A3 v.n3 v.c3, .slice v.A4 v.n4 v.c4, .slice v.A5 v.n5 v.c5]] w fun e w' => e = .returned (.bool (largeB v)) ∧ Below w.heap.size w w' := by
  by_cases g0 : 100 < v.n0
  · have g0' : (100 : Int) < (v.n0 : Int) := by omega
    have S := hide (show largeB v = true by simp [largeB, g0])
    clear g0
    go_enter Try.func15, Try.ntmps15
    go_wp2_with fail
    go_ret
    exact ⟨by rw [S.out]; rfl, (Below.refl _ _).alloc (Nat.le_refl _) _⟩
  have g0' : ¬ (100 : Int) < (v.n0 : Int) := by omega
  by_cases g1 : 100 < v.n1
  · have g1' : (100 : Int) < (v.n1 : Int) := by omega
    have S := hide (show largeB v = true by simp [largeB, g0, g1])
    clear g0 g1
    go_enter Try.func15, Try.ntmps15
    go_wp2_with fail
    go_ret
    exact ⟨by rw [S.out]; rfl, (Below.refl _ _).alloc (Nat.le_refl _) _⟩
  have g1' : ¬ (100 : Int) < (v.n1 : Int) := by omega
  by_cases g2 : 100 < v.n2
  · have g2' : (100 : Int) < (v.n2 : Int) := by omega
    have S := hide (show largeB v = true by simp [largeB, g0, g1, g2])
    clear g0 g1 g2
    go_enter Try.func15, Try.ntmps15
    go_wp2_with fail
    go_ret
    exact ⟨by rw [S.out]; rfl, (Below.refl _ _).alloc (Nat.le_refl _) _⟩
  have g2' : ¬ (100 : Int) < (v.n2 : Int) := by omega
  by_cases g3 : 100 < v.n3
  · have g3' : (100 : Int) < (v.n3 : Int) := by omega
    have S := hide (show largeB v = true by simp [largeB, g0, g1, g2, g3])
    clear g0 g1 g2 g3
    go_enter Try.func15, Try.ntmps15
    go_wp2_with fail
    go_ret
    exact ⟨by rw [S.out]; rfl, (Below.refl _ _).alloc (Nat.le_refl _) _⟩
  have g3' : ¬ (100 : Int) < (v.n3 : Int) := by omega
  by_cases g4 : 100 < v.n4
  · have g4' : (100 : Int) < (v.n4 : Int) := by omega
    have S := hide (show largeB v = true by simp [largeB, g0, g1, g2, g3, g4])
    clear g0 g1 g2 g3 g4
    go_enter Try.func15, Try.ntmps15
    go_wp2_with fail
    go_ret
    exact ⟨by rw [S.out]; rfl, (Below.refl _ _).alloc (Nat.le_refl _) _⟩
  have g4' : ¬ (100 : Int) < (v.n4 : Int) := by omega
  by_cases g5 : 100 < v.n5
  · have g5' : (100 : Int) < (v.n5 : Int) := by omega
    have S := hide (show largeB v = true by simp [largeB, g0, g1, g2, g3, g4, g5])
    clear g0 g1 g2 g3 g4 g5
    go_enter Try.func15, Try.ntmps15
    go_wp2_with fail
    go_ret
    exact ⟨by rw [S.out]; rfl, (Below.refl _ _).alloc (Nat.le_refl _) _⟩
  have g5' : ¬ (100 : Int) < (v.n5 : Int) := by omega
  have S := hide (show largeB v = false by simp [largeB, g0, g1, g2, g3, g4, g5] <;> omega)
  clear g0 g1 g2 g3 g4 g5
  go_enter Try.func15, Try.ntmps15
  go_wp2_with fail
  go_ret
  exact ⟨by rw [S.out]; rfl, (Below.refl _ _).alloc (Nat.le_refl _) _⟩
theorem Two.all {w W : World} {v o : Vd} (h : Two w W v o) (p : BelowOf W) : Two w p.world v o := h.below p.below
def VLaw (v o : Vd) (w : World) : Prop := Calls Try.prog 5 #[.agg #[.slice v.A0 v.n0 v.c0, .slice v.A1 v.n1 v.c1, .slice v.A2 v.n2 v.c2, .slice v.A3 v.n3 v.c3, .slice v.A4 v.n4 v.c4, .slice v.A5 v.n5 v.c5], .agg #[.slice o.A0 o.n0 o.c0, .slice o.A1 o.n1 o.c1, .slice o.A2 o.n2 o.c2, .slice o.A3 o.n3 o.c3, .slice o.A4 o.n4 o.c4, .slice o.A5 o.n5 o.c5]] w fun e w' => e = .returned (.bool true) ∧ Below w.heap.size w w'
set_option maxRecDepth 100000 in
set_option maxHeartbeats 8000000 in
theorem law_any (v o : Vd) (w : World) (hv : VdOk w v) (ho : VdOk w o) : VLaw v o w := by
  have HV := hide hv
  have HO := hide ho
  have HT := hide (Two.start w v o)
  clear hv ho
  unfold VLaw
  by_cases g : largeB v = true
  · go_enter Try.func5, Try.ntmps5
    go_wp2_with fail
    refine (large_any v _).mono ?_
    rintro e W1 ⟨rfl, hb⟩
    have HT1 := hide (HT.out.below hb)
    clear HT hb
    have HT := hide HT1.out
    clear HT1
    go_wp2_with fail
    go_ret
    exact ⟨rfl, HT.out.b⟩
  have g : largeB v = false := by simpa using g
  by_cases g2 : largeB o = true
  · go_enter Try.func5, Try.ntmps5
    go_wp2_with fail
    refine (large_any v _).mono ?_
    rintro e W1 ⟨rfl, hb⟩
    have HT1 := hide (HT.out.below hb)
    clear HT hb
    have HT := hide HT1.out
    clear HT1
    have q0 := HT.out.p.q0
    have q1 := HT.out.p.q1
    have q2 := HT.out.p.q2
    have q3 := HT.out.p.q3
    have q4 := HT.out.p.q4
    have q5 := HT.out.p.q5
    go_wp2_with fail
    clear q0 q1 q2 q3 q4 q5
    refine (large_any o _).mono ?_
    rintro e W2 ⟨rfl, hb⟩
    have HT1 := hide (HT.out.below hb)
    clear HT hb
    go_wp2_with fail
    go_ret
    exact ⟨rfl, HT1.out.b⟩
  have g2 : largeB o = false := by simpa using g2
  go_enter Try.func5, Try.ntmps5
  go_wp2_with fail
  refine (large_any v _).mono ?_
  rintro e W1 ⟨rfl, hb⟩
  have HT1 := hide (HT.out.below hb)
  clear HT hb
  have HT := hide HT1.out
  clear HT1
  have q0 := HT.out.p.q0
  have q1 := HT.out.p.q1
  have q2 := HT.out.p.q2
  have q3 := HT.out.p.q3
  have q4 := HT.out.p.q4
  have q5 := HT.out.p.q5
  go_wp2_with fail
  clear q0 q1 q2 q3 q4 q5
  refine (large_any o _).mono ?_
  rintro e W2 ⟨rfl, hb⟩
  have HT1 := hide (HT.out.below hb)
  clear HT hb
  have HT := hide HT1.out
  clear HT1 g g2
  have hne : Nonempty (BelowOf W2) := ⟨⟨_, Below.refl _ _⟩⟩
  have HV2 : Hid (∀ p : BelowOf W2, VdOk p.world v) := hide fun p => HV.out.below (HT.out.all p).b
  have HO2 : Hid (∀ p : BelowOf W2, VdOk p.world o) := hide fun p => HO.out.below (HT.out.all p).b
  have q0 : ∀ p : BelowOf W2, p.world.cell? ⟨w.heap.size, 0, none⟩ = some (.slice v.A0 v.n0 v.c0) := fun p => (HT.out.all p).q.q0
  have q1 : ∀ p : BelowOf W2, p.world.cell? ⟨w.heap.size, 1, none⟩ = some (.slice v.A1 v.n1 v.c1) := fun p => (HT.out.all p).q.q1
  have q2 : ∀ p : BelowOf W2, p.world.cell? ⟨w.heap.size, 2, none⟩ = some (.slice v.A2 v.n2 v.c2) := fun p => (HT.out.all p).q.q2
  have q3 : ∀ p : BelowOf W2, p.world.cell? ⟨w.heap.size, 3, none⟩ = some (.slice v.A3 v.n3 v.c3) := fun p => (HT.out.all p).q.q3
  have q4 : ∀ p : BelowOf W2, p.world.cell? ⟨w.heap.size, 4, none⟩ = some (.slice v.A4 v.n4 v.c4) := fun p => (HT.out.all p).q.q4
  have q5 : ∀ p : BelowOf W2, p.world.cell? ⟨w.heap.size, 5, none⟩ = some (.slice v.A5 v.n5 v.c5) := fun p => (HT.out.all p).q.q5
  have p0 : ∀ p : BelowOf W2, p.world.cell? ⟨w.heap.size + 1, 0, none⟩ = some (.slice o.A0 o.n0 o.c0) := fun p => (HT.out.all p).p.q0
  have p1 : ∀ p : BelowOf W2, p.world.cell? ⟨w.heap.size + 1, 1, none⟩ = some (.slice o.A1 o.n1 o.c1) := fun p => (HT.out.all p).p.q1
  have p2 : ∀ p : BelowOf W2, p.world.cell? ⟨w.heap.size + 1, 2, none⟩ = some (.slice o.A2 o.n2 o.c2) := fun p => (HT.out.all p).p.q2
  have p3 : ∀ p : BelowOf W2, p.world.cell? ⟨w.heap.size + 1, 3, none⟩ = some (.slice o.A3 o.n3 o.c3) := fun p => (HT.out.all p).p.q3
  have p4 : ∀ p : BelowOf W2, p.world.cell? ⟨w.heap.size + 1, 4, none⟩ = some (.slice o.A4 o.n4 o.c4) := fun p => (HT.out.all p).p.q4
  have p5 : ∀ p : BelowOf W2, p.world.cell? ⟨w.heap.size + 1, 5, none⟩ = some (.slice o.A5 o.n5 o.c5) := fun p => (HT.out.all p).p.q5
  have hs := sameV_self v
  have hk : (kindsN v == kindsN v) = true := by simp
  go_wp2_with fail
  refine wp_region_quiet_below (by kernel_rfl) (by kernel_rfl) ?_
  repeat (go_big_quiet_step (first
    | (go_at_call 16; refine calls_below (kinds_a v _ (HV2.out _)))
    | (go_at_call 17; refine calls_below (kinds_b v _ (HV2.out _)))
    | (go_at_call 18; refine calls_below (clean_a v _ (HV2.out _)))
    | (go_at_call 20; refine calls_below (same_b v o _ (HV2.out _) (HO2.out _)))
    | (go_at_call_of 19 o; refine calls_below (same_a v o _ (HV2.out _) (HO2.out _)))
    | (go_at_call 19; refine calls_below (same_a v v _ (HV2.out _) (HV2.out _)))))
  refine wpQuiet_nil ?_
  rintro _ ⟨⟨Wq, hq⟩, rfl⟩
  go_wp2
  go_ret
  exact ⟨by simp, HT.out.b.trans (hq.mono HT.out.b.size)⟩
set_option maxRecDepth 100000 in
theorem RStr.of {H : Type} {enc : TypeId × Value → H} {w : World} {base : Nat} {spare : Nat → Bool} {held : Bool} {fuel : Nat} {v : Value} {x : DataW H × List MemPlace} (h : DataW.trod enc Try.prog w base spare held fuel 37 [v] = some x) :
    ∃ A n c F, v = .slice A n c ∧ RStr w A n F := by
  rcases open_slice Try.underlying37 h with ⟨h0, _⟩ | ⟨a, len, cap, m, n, D, Pl, h0, hb, hl, hm, hmm, hx, hi⟩
  · obtain rfl : v = .slice none 0 0 := by simpa using h0
    exact ⟨none, 0, 0, fun _ => ByteArray.empty, rfl, by unfold maxLen; omega, .inl rfl⟩
  · obtain rfl : v = .slice (some a) len cap := by simpa using h0
    have hC : Try.prog.cellsOf 9 = 1 := by kernel_rfl
    have : ∀ i, i < len → ∃ s : ByteArray, w.cell? (a.add i) = some (.string s) := by
      intro i hik
      obtain ⟨cs', hc, ht⟩ := hi i (by rw [hmm]; split <;> omega)
      rw [hC] at hc
      obtain ⟨s, e, _, _⟩ := DataW.trod_string Try.underlying9 ht
      obtain ⟨_, hcl, hat⟩ := World.cells?_some hc
      have := hat 0 (by omega)
      rw [e] at this
      refine ⟨s, ?_⟩
      rw [Nat.mul_one] at this
      simpa [Addr.add] using this
    have hI : Inhabited ByteArray := ⟨ByteArray.empty⟩
    obtain ⟨F, hF⟩ := choose_lt this
    rcases Nat.eq_zero_or_pos len with h0 | h0
    · exact ⟨some a, len, cap, F, rfl, by omega, .inl h0⟩
    · refine ⟨some a, len, cap, F, rfl, by omega, .inr ⟨a, rfl, ?_, hF⟩⟩
      have g := hF 0 h0
      rcases Nat.lt_or_ge a.block w.heap.size with h | h
      · exact h
      · have : w.cell? (a.add 0) = none := by simp [World.cell?, Addr.add, Array.getElem?_eq_none h]
        rw [this] at g; cases g
set_option maxRecDepth 100000 in
theorem Vd.of {H : Type} {enc : TypeId × Value → H} {base : Nat} {W : World} {v0 : Value} {d0 : DataW H} {p0 : List MemPlace} (o0 : Value.okWide Try.prog W .any base 39 v0) (r0 : DataW.Trod enc Try.prog W 0 (fun _ => true) true 39 v0 d0 p0) :
    ∃ v : Vd, v0 = .agg #[.slice v.A0 v.n0 v.c0, .slice v.A1 v.n1 v.c1, .slice v.A2 v.n2 v.c2, .slice v.A3 v.n3 v.c3, .slice v.A4 v.n4 v.c4, .slice v.A5 v.n5 v.c5] ∧ VdOk W v := by
  obtain ⟨c0, c1, c2, c3, c4, c5, y0, y1, y2, y3, y4, y5, fuel, rfl, _, _, h0, h1, h2, h3, h4, h5⟩ := open_agg6 Try.underlying39 (by kernel_rfl) (by kernel_rfl) o0 r0
  obtain ⟨A0, n0, k0, F0, rfl, s0⟩ := REnd.of h0
  obtain ⟨A1, n1, k1, F1, rfl, s1⟩ := RStuck.of h1
  obtain ⟨A2, n2, k2, F2, rfl, s2⟩ := RLeak.of h2
  obtain ⟨A3, n3, k3, F3, rfl, s3⟩ := RReceive.of h3
  obtain ⟨A4, n4, k4, F4, rfl, s4⟩ := RMessage.of h4
  obtain ⟨A5, n5, k5, F5, rfl, s5⟩ := RStr.of h5
  exact ⟨⟨A0, n0, k0, A1, n1, k1, A2, n2, k2, A3, n3, k3, A4, n4, k4, A5, n5, k5, F0, F1, F2, F3, F4, F5⟩, rfl, s0, s1, s2, s3, s4, s5⟩
set_option maxRecDepth 100000 in
theorem walk {H : Type} {enc : TypeId × Value → H} {base : Nat} (W : World) (v0 : Value) (d0 : DataW H) (p0 : List MemPlace) (o0 : Value.okWide Try.prog W .any base 39 v0) (r0 : DataW.Trod enc Try.prog W 0 (fun _ => true) true 39 v0 d0 p0) (v1 : Value) (d1 : DataW H) (p1 : List MemPlace) (o1 : Value.okWide Try.prog W .any base 39 v1) (r1 : DataW.Trod enc Try.prog W 0 (fun _ => true) true 39 v1 d1 p1) :
    Calls Try.prog 5 #[v0, v1] W fun e w' => e = .returned (.bool true) ∧ Below W.heap.size W w' := by
  obtain ⟨v, rfl, hv⟩ := Vd.of o0 r0
  obtain ⟨o, rfl, ho⟩ := Vd.of o1 r1
  exact law_any v o W hv ho
end Go.Proofs.Ytnmddeplchideaa.VerdictKindsW
