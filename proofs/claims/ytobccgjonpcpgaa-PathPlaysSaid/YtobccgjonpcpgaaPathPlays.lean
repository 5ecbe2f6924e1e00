/- The walk of the statement PathPlays: of any acts; without conditions. -/
import Derived.Test.YtobccgjonpcpgaaRows
import Derived.Test.YtobccgjonpcpgaaPathS
import Derived.Test.YtobccgjonpcpgaaPathN
import Derived.Test.YtobccgjonpcpgaaPathQ
import Derived.Test.YtobccgjonpcpgaaPathV
import Derived.Test.YtobccgjonpcpgaaRelV
import Derived.Test.YtobccgjonpcpgaaQuietBelow
import Derived.LoopN
import Derived.Deep.CutRange
import Derived.Deep.QuietTactic
import Derived.BigQuiet
namespace Go.Proofs.Ytobccgjonpcpgaa.PathPlaysW
open Go Go.Joins Go.ChangeShapes Go.WideShapes Go.RowKit Go.Deep Go.Proofs.Ytobccgjonpcpgaa Go.Proofs.Ytobccgjonpcpgaa.Pth
set_option linter.unusedVariables false
set_option linter.unusedSimpArgs false
theorem rem4 {k : Int} (h0 : 0 ≤ k) : Int.tmod k 4 = 0 ∨ Int.tmod k 4 = 1 ∨ Int.tmod k 4 = 2 ∨ Int.tmod k 4 = 3 := by
  rw [Int.tmod_eq_emod_of_nonneg h0]
  omega
/-- Values that the round has laid, from block lo on. -/
def PV (lo : Nat) (vs : List Ch) (w : World) (A : Option Addr) : Prop := 0 < vs.length → ∃ g, A = some ⟨g, 0, none⟩ ∧ lo ≤ g ∧ VRow w (some ⟨g, 0, none⟩) vs
theorem PV.keeps {lo : Nat} {vs : List Ch} {tys : List TypeId} {w w' : World} {A : Option Addr} (h : PV lo vs w A) (k : KeepsBut tys w w') (hn : ¬ 43 ∈ tys) : PV lo vs w' A := fun hp => by
  obtain ⟨g, h1, h2, h3⟩ := h hp
  exact ⟨g, h1, h2, h3.keeps k hn⟩
theorem PV.crow {lo : Nat} {vs : List Ch} {w : World} {A : Option Addr} (h : PV lo vs w A) (hl : vs.length ≤ 1000) : CRow w A vs := by
  by_cases hp : 0 < vs.length
  · obtain ⟨g, rfl, _, h3⟩ := h hp
    exact h3.crow hl
  · exact ⟨by unfold maxLen; omega, fun h => absurd h hp⟩
/-- The region that lays the point. -/
structure J9 (wr : World) (r c : Int) (vs : List Ch) (V : Nat → Option Value) (w1 : World) : Prop where
  bl : Below wr.heap.size wr w1
  dep : (V 22).isSome = true → (V 21).isSome = true
  box : ∀ u, V 21 = some u → ∃ P, u = .pointer (some ⟨P, 0, none⟩) ∧ wr.heap.size ≤ P ∧ (V 22 = none → Blk w1 P 34 #[.int .i64 0, .int .i64 0, .slice none 0 0]) ∧ ∀ z, V 22 = some z → ∃ A cc, Blk w1 P 34 #[.int .i64 r, .int .i64 c, .slice A vs.length cc] ∧ PV wr.heap.size vs w1 A
section
variable {wr w1 w' : World} {r c : Int} {vs : List Ch} {V : Nat → Option Value}
theorem J9.plain {i : Nat} {v : Value} (h : J9 wr r c vs V w1) (hb : Below w1.heap.size w1 w') (hi : i ≠ 21 ∧ i ≠ 22) : J9 wr r c vs (setV V i v) w' := by
  have e : ∀ j, j = 21 ∨ j = 22 → setV V i v j = V j := fun j hj => if_neg (by omega)
  refine ⟨h.bl.trans (hb.mono h.bl.size), by rw [e 21 (by omega), e 22 (by omega)]; exact h.dep, fun u hu => ?_⟩
  rw [e 21 (by omega)] at hu
  rw [e 22 (by omega)]
  obtain ⟨P, h1, h2, h3, h4⟩ := h.box u hu
  refine ⟨P, h1, h2, fun hn => (h3 hn).below hb (h3 hn).lt, fun z hz => ?_⟩
  obtain ⟨A, cc, h5, h6⟩ := h4 z hz
  exact ⟨A, cc, h5.below hb h5.lt, h6.keeps (KeepsBut.of_below (tys := []) hb) (by decide)⟩
theorem J9.alloc (h : J9 wr r c vs V w1) (h21 : V 21 = none) : J9 wr r c vs (setV V 21 (.pointer (some ⟨w1.heap.size, 0, none⟩))) (w1.alloc (.cells #[.int .i64 0, .int .i64 0, .slice none 0 0] 34)) := by
  have e : setV V 21 (.pointer (some ⟨w1.heap.size, 0, none⟩)) 21 = some (.pointer (some ⟨w1.heap.size, 0, none⟩)) := if_pos rfl
  have e2 : setV V 21 (.pointer (some ⟨w1.heap.size, 0, none⟩)) 22 = V 22 := if_neg (by decide)
  have hn : V 22 = none := by
    cases h2 : V 22 with
    | none => rfl
    | some z =>
      have := h.dep (by rw [h2]; rfl)
      rw [h21] at this
      cases this
  refine ⟨h.bl.alloc h.bl.size _, fun _ => by rw [e]; rfl, fun u hu => ?_⟩
  rw [e] at hu
  rw [e2, hn]
  injection hu with hu
  exact ⟨w1.heap.size, hu.symm, h.bl.size, fun _ => Blk.new w1 34 _, fun z hz => (by cases hz)⟩
end
/-- What a Push leaves of the program's stack. -/
def PostA (lo : Nat) (b : Bool) (T C : Nat) (ls : List Lv) (r c : Int) (vs : List Ch) (off : Bool) (w' : World) : Prop := match b with
  | true => ∃ (g cap' : Nat), lo ≤ g ∧ StA w' T C (ls ++ [(⟨r, c, some ⟨g, 0, none⟩, cap', vs, off, 0⟩ : Lv)])
  | false => StA w' T C ls
def PostB (lo : Nat) (b : Bool) (U C : Nat) (ms : List Lv) (r c : Int) (vs : List Ch) (off : Bool) (w' : World) : Prop := match b with
  | true => ∃ (g cap' : Nat), lo ≤ g ∧ StB w' U C (ms ++ [(⟨r, c, some ⟨g, 0, none⟩, cap', vs, off, 0⟩ : Lv)])
  | false => StB w' U C ms
section
variable {lo : Nat} {b : Bool} {T U C : Nat} {ls ms : List Lv} {r c : Int} {vs : List Ch} {off : Bool} {w w' : World}
theorem PostA.keep {tys : List TypeId} (h : PostA lo b T C ls r c vs off w) (k : KeepsBut tys w w') (h1 : ¬ 52 ∈ tys) (h2 : ¬ 58 ∈ tys) (h3 : ¬ 43 ∈ tys) : PostA lo b T C ls r c vs off w' := by
  cases b with
  | false => exact StA.keep h k h1 h2 h3
  | true =>
    obtain ⟨g, cap', hg, hs⟩ := h
    exact ⟨g, cap', hg, hs.keep k h1 h2 h3⟩
theorem PostB.keep {tys : List TypeId} (h : PostB lo b U C ms r c vs off w) (k : KeepsBut tys w w') (h1 : ¬ 31 ∈ tys) (h2 : ¬ 34 ∈ tys) (h3 : ¬ 4 ∈ tys) (h4 : ¬ 3 ∈ tys) (h5 : ¬ 43 ∈ tys) : PostB lo b U C ms r c vs off w' := by
  cases b with
  | false => exact StB.keep h k h1 h2 h3 h4 h5
  | true =>
    obtain ⟨g, cap', hg, hs⟩ := h
    exact ⟨g, cap', hg, hs.keep k h1 h2 h3 h4 h5⟩
end
theorem PushA (lo : Nat) (b : Bool) (T C : Nat) (ls : List Lv) (r c : Int) (A : Option Addr) (cap : Nat) (vs : List Ch) (off : Bool) (w : World) (hb : decide (mayV r c vs) = b) (hlo : lo ≤ w.heap.size) (ht : StA w T C ls) (hCT : C ≤ T) (h : CRow w A vs) (hl : vs.length ≤ 1000) (hlt : ls.length < 2000) :
    Calls Try.prog 7 #[.pointer (some ⟨T, 0, none⟩), .agg #[.int .i64 r, .int .i64 c, .slice A vs.length cap], .bool off] w fun e w' => e = .returned (.int .i64 (bif b then 0 else 2)) ∧ PostA lo b T C ls r c vs off w' ∧ Below C w w' ∧ KeepsBut [58, 52] w w' ∧ Only (stB w T) w w' := by
  by_cases hm : mayV r c vs
  · rw [decide_eq_true hm] at hb
    subst hb
    refine (Push_yes T C ls r c A cap vs off w ht hCT h hl hm hlt).mono ?_
    rintro e w' ⟨rfl, ⟨g, cap', hg, hs⟩, hb, hk, v, hv, ho⟩
    have e : stB w T = T :: v.ownBlock.toList := by unfold stB; rw [hv]
    exact ⟨rfl, ⟨g, cap', Nat.le_trans hlo hg, hs⟩, hb, hk, by rw [e]; exact ho⟩
  · rw [decide_eq_false hm] at hb
    subst hb
    have E : pushE r c vs = 2 := by unfold pushE; rw [if_neg hm]
    have hp := Push_no T C ls r c A cap vs off w ht h hl (.inl hm)
    rw [E] at hp
    have hCw : C ≤ w.heap.size := by have := ht.lt; omega
    refine hp.mono ?_
    rintro e w' ⟨rfl, hb⟩
    exact ⟨rfl, ht.below hb, hb.mono hCw, KeepsBut.of_below hb, Only.of_below hb⟩
theorem PushB (lo : Nat) (b : Bool) (U C : Nat) (ms : List Lv) (r c : Int) (A : Option Addr) (cap : Nat) (vs : List Ch) (off : Bool) (w : World) (hb : decide (mayV r c vs) = b) (hlo : lo ≤ w.heap.size) (ht : StB w U C ms) (hCT : C ≤ U) (h : ∀ w', Below C w w' → CRow w' A vs) (hl : vs.length ≤ 1000) (hlt : ms.length < 2000) :
    Calls Try.prog 8 #[.pointer (some ⟨U, 0, none⟩), .agg #[.int .i64 r, .int .i64 c, .slice A vs.length cap], .bool off] w fun e w' => e = .returned (.int .i64 (bif b then 0 else 2)) ∧ PostB lo b U C ms r c vs off w' ∧ Below C w w' ∧ KB (rowOf w U) w w' := by
  by_cases hm : mayV r c vs
  · rw [decide_eq_true hm] at hb
    subst hb
    refine (PushB_yes U C ms r c A cap vs off w ht hCT h hl hm hlt).mono ?_
    rintro e w' ⟨rfl, ⟨g, cap', hg, hs⟩, hb, hk⟩
    exact ⟨rfl, ⟨g, cap', Nat.le_trans hlo hg, hs⟩, hb, hk⟩
  · rw [decide_eq_false hm] at hb
    subst hb
    have E : pushE r c vs = 2 := by unfold pushE; rw [if_neg hm]
    have hp := PushB_no U C ms r c A cap vs off w ht (h w (Below.refl _ _)) hl (.inl hm)
    rw [E] at hp
    have hCw : C ≤ w.heap.size := by have := ht.lt; omega
    refine hp.mono ?_
    rintro e w' ⟨rfl, hb⟩
    exact ⟨rfl, ht.below hb, hb.mono hCw, hb.size, fun j cs ty fz hj _ _ => hb.block j (Array.getElem?_eq_some_iff.1 hj).1⟩
/-- The region of both pushes. -/
structure J17 (w1 w9 : World) (T U C P : Nat) (ls ms : List Lv) (b : Bool) (r c : Int) (vs : List Ch) (off : Bool) (pA : Option Addr) (pc lo : Nat) (V : Nat → Option Value) (w : World) : Prop where
  a0 : V 7 = none → StA w T C ls
  a1 : (V 7).isSome = true → PostA w9.heap.size b T C ls r c vs off w
  b0 : V 19 = none → StB w U C ms ∧ rowOf w U ≠ some P
  b1 : (V 19).isSome = true → PostB w9.heap.size b U C ms r c vs off w
  bl : Below C w1 w
  sz : w9.heap.size ≤ w.heap.size
  bk : Blk w P 34 #[.int .i64 r, .int .i64 c, .slice pA vs.length pc]
  pv : PV lo vs w pA
theorem J17.plain {w1 w9 : World} {T U C P : Nat} {ls ms : List Lv} {b : Bool} {r c : Int} {vs : List Ch} {off : Bool} {pA : Option Addr} {pc lo : Nat} {V : Nat → Option Value} {w : World} {i : Nat} {v : Value} (h : J17 w1 w9 T U C P ls ms b r c vs off pA pc lo V w) (hi : i ≠ 7 ∧ i ≠ 19) : J17 w1 w9 T U C P ls ms b r c vs off pA pc lo (setV V i v) w := by
  have e : ∀ j, j = 7 ∨ j = 19 → setV V i v j = V j := fun j hj => if_neg (by omega)
  exact ⟨by rw [e 7 (by omega)]; exact h.a0, by rw [e 7 (by omega)]; exact h.a1, by rw [e 19 (by omega)]; exact h.b0, by rw [e 19 (by omega)]; exact h.b1, h.bl, h.sz, h.bk, h.pv⟩
/-- What holds behind the switch. -/
structure Tl (w1 : World) (T U C P k : Nat) (ls ms : List Lv) (r c : Int) (n : Nat) (pA : Option Addr) (pc : Nat) (w : World) : Prop where
  a : StA w T C ls
  b : StB w U C ms
  s : Sim ls ms
  f : ∀ x ∈ ls, x.fit
  l : ls.length ≤ k + 1
  tu : C ≤ T ∧ C ≤ U
  bl : Below C w1 w
  bk : Blk w P 34 #[.int .i64 r, .int .i64 c, .slice pA n pc]
  px : 0 < n → ∃ g cs, pA = some ⟨g, 0, none⟩ ∧ C ≤ g ∧ Away g ls ∧ Away g ms ∧ Blk w g 43 cs ∧ n * 5 ≤ cs.size
theorem Tl.far {w1 : World} {T U C P k : Nat} {ls ms : List Lv} {r c : Int} {n : Nat} {g : Nat} {pc j : Nat} {w : World} {cs : Array Value} (h : Tl w1 T U C P k ls ms r c n (some ⟨g, 0, none⟩) pc w) (hC : C ≤ g) (h1 : Away g ls) (h2 : Away g ms) (hb : Blk w g 43 cs) (hs : n * 5 ≤ cs.size) (u : Value) : Tl w1 T U C P k ls ms r c n (some ⟨g, 0, none⟩) pc (w.setCell ⟨g, j, none⟩ u) :=
  ⟨h.a.far hb h1, h.b.far hb h2, h.s, h.f, h.l, h.tu, h.bl.setCell (p := ⟨g, j, none⟩) hC u, KeepsBut.blk (keeps_set (p := ⟨g, j, none⟩) hb u) h.bk (by decide), fun _ => ⟨g, _, rfl, hC, h1, h2, hb.set_ j u, by rw [Array.size_setIfInBounds]; exact hs⟩⟩
/-- The values, as they are written. -/
theorem px_of {lo C : Nat} {vs : List Ch} {w : World} {pA : Option Addr} {ls ms : List Lv} (h : PV lo vs w pA) (hC : C ≤ lo) (ha : ∀ g, lo ≤ g → g < w.heap.size → pA = some ⟨g, 0, none⟩ → Away g ls ∧ Away g ms) : 0 < vs.length → ∃ g cs, pA = some ⟨g, 0, none⟩ ∧ C ≤ g ∧ Away g ls ∧ Away g ms ∧ Blk w g 43 cs ∧ vs.length * 5 ≤ cs.size := fun hp => by
  obtain ⟨g, rfl, hg, g', cs, e, hb, _, htk⟩ := h hp
  injection e with e
  injection e with e
  subst e
  obtain ⟨h1, h2⟩ := ha g hg hb.lt rfl
  refine ⟨g, cs, rfl, Nat.le_trans hC hg, h1, h2, hb, ?_⟩
  have := congrArg List.length htk
  have h9 : cs.toList.length = cs.size := Array.length_toList
  rw [chs_len, List.length_take] at this
  omega
set_option maxRecDepth 100000 in
set_option maxHeartbeats 8000000 in
theorem walk {H : Type} {enc : TypeId × Value → H} {base : Nat} (W : World) (v0 : Value) (d0 : DataW H) (p0 : List MemPlace) (o0 : Value.okWide Try.prog W .any base 22 v0) (r0 : DataW.Trod enc Try.prog W 0 (fun _ => true) true 22 v0 d0 p0) :
    Calls Try.prog 3 #[v0] W fun e w' => e = .returned (.bool true) ∧ Below W.heap.size W w' := by
  have HC := hide (info_parts ch_info)
  obtain ⟨A, n, lc, F, rfl, hn, hF⟩ := acts_of o0 r0
  clear o0 r0
  have GR := hide (Great_a A n lc F W hF)
  have HF := hide hF
  clear hF hn
  go_enter Try.func3, Try.ntmps3
  go_wp2_with fail
  refine GR.out.mono ?_
  rintro e w1 ⟨hor, hb1⟩
  have HF1 := hide (HF.out.below hb1)
  have HB1 := hide hb1
  clear hb1 GR
  rcases hor with rfl | ⟨rfl, hsm⟩
  · go_wp2_with fail
    go_ret
    exact ⟨rfl, HB1.out⟩
  have SM := hide hsm
  have NW := hide (New_a w1)
  clear hsm
  go_wp2_with fail
  refine NW.out.mono ?_
  rintro e w2 ⟨rfl, ht2, hb2⟩
  have hbx := (Below.refl w2.heap.size w2).alloc (Nat.le_refl _) (.cells #[.slice none 0 0, .slice none 0 0, .slice none 0 0] 31)
  have hkx := Blk.new w2 31 #[.slice none 0 0, .slice none 0 0, .slice none 0 0]
  have S2 : Hid (StA (w2.alloc (.cells #[.slice none 0 0, .slice none 0 0, .slice none 0 0] 31)) w1.heap.size w1.heap.size []) := hide ⟨by simp, ⟨_, ht2.below hbx ht2.lt, rfl, .inl ⟨rfl, rfl⟩⟩, fun i hi => absurd hi (Nat.not_lt_zero i)⟩
  have R2 : Hid (StB (w2.alloc (.cells #[.slice none 0 0, .slice none 0 0, .slice none 0 0] 31)) w2.heap.size w1.heap.size []) := hide ⟨by simp, ⟨_, _, _, hkx, ⟨rfl, .inl ⟨rfl, rfl⟩⟩, ⟨rfl, .inl ⟨rfl, rfl⟩⟩, ⟨rfl, .inl ⟨rfl, rfl⟩⟩⟩, fun i hi => absurd hi (Nat.not_lt_zero i)⟩
  have HB2 := hide (hb2.trans (hbx.mono hb2.size))
  have HS2 := hide hb2.size
  clear ht2 hb2 hbx hkx
  go_wp2_with fail
  go_loopw [3, 4, 5] (fun vt vu vi wr => ∃ (k T U : Nat) (ls ms : List Lv), k ≤ n ∧ vi = .int .i64 k ∧ vt = .pointer (some ⟨T, 0, none⟩) ∧ vu = .pointer (some ⟨U, 0, none⟩) ∧ Hid (StA wr T w1.heap.size ls) ∧ Hid (StB wr U w1.heap.size ms) ∧ Hid (Sim ls ms) ∧ Hid (∀ x ∈ ls, x.fit) ∧ Hid (ls.length ≤ k) ∧ Hid (w1.heap.size ≤ T ∧ w1.heap.size ≤ U) ∧ Hid (Below w1.heap.size w1 wr)) (fun _ _ vi _ => n - (intOf vi).toNat)
  case atStart => exact ⟨0, w1.heap.size, w2.heap.size, [], [], by omega, rfl, rfl, rfl, S2, R2, hide rfl, hide (fun x hx => by cases hx), hide (by simp), hide ⟨Nat.le_refl _, HS2.out⟩, HB2⟩
  case round =>
    clear S2 R2 HB2 HS2
    obtain ⟨k, T, U, ls, ms, hk, rfl, rfl, rfl, P1, P2, SI, FT, HL, HTU, HB⟩ := hrel
    by_cases hlt : k < n
    rotate_left
    · have hltI : ¬ (k : Int) < (n : Int) := by omega
      go_wp2_with fail
      go_ret
      exact ⟨rfl, HB1.out.trans (HB.out.mono HB1.out.size)⟩
    have hltI : (k : Int) < (n : Int) := by omega
    obtain ⟨a, rfl, c0, c1, c2, c3, c4, hcr, k0, k1, hal⟩ := HF1.out k hlt
    have hvs := SM.out.2 k hlt
    have hn200 := SM.out.1
    generalize F k = x at *
    obtain ⟨kind, r, c, xA, xcap, vs, off⟩ := x
    simp only at c0 c1 c2 c3 c4 hcr hvs
    -- the act's cells, in any world behind
    have HC0 := hide (fun (w' : World) (h : Below w1.heap.size w1 w') => (h.cell hal).trans c0)
    have HC1 := hide (fun (w' : World) (h : Below w1.heap.size w1 w') => (h.cell (p := ⟨_, _, none⟩) hal).trans c1)
    have HC2 : Hid (∀ (w' : World), Below w1.heap.size w1 w' → w'.cell? ⟨(a.add (k * 5)).block, (a.add (k * 5)).off + 1 + 1, none⟩ = some (.int .i64 c)) := hide (fun (w' : World) (h : Below w1.heap.size w1 w') => (h.cell (p := ⟨_, _, none⟩) hal).trans c2)
    have HC3 : Hid (∀ (w' : World), Below w1.heap.size w1 w' → w'.cell? ⟨(a.add (k * 5)).block, (a.add (k * 5)).off + 1 + 2, none⟩ = some (.slice xA vs.length xcap)) := hide (fun (w' : World) (h : Below w1.heap.size w1 w') => (h.cell (p := ⟨_, _, none⟩) hal).trans c3)
    have HC4 := hide (fun (w' : World) (h : Below w1.heap.size w1 w') => (h.cell (p := ⟨_, _, none⟩) hal).trans c4)
    have HCR := hide (fun (w' : World) (h : Below w1.heap.size w1 w') => hcr.below h)
    have RM := hide (rem4 k0)
    have HKI := hide (And.intro k0 k1)
    have HVS := hide hvs
    have HN := hide hn200
    have hwr := hide HB.out.size
    clear c0 c1 c2 c3 c4 hcr k0 k1 hvs hal hn200
    go_wp2_with fail
    let R : Nat → Value → World → Prop := fun sl u w9 => match sl with
      | 24 | 30 | 37 => u = .slice (some a) n lc
      | 25 | 31 | 38 => u = .int .i64 k
      | 26 | 32 | 39 => u = .pointer (some (a.add (k * 5)))
      | 27 | 33 | 40 | 28 => u = .pointer (some ⟨(a.add (k * 5)).block, (a.add (k * 5)).off + 1, none⟩)
      | 34 => u = .pointer (some ⟨(a.add (k * 5)).block, (a.add (k * 5)).off + 1 + 1, none⟩)
      | 41 => u = .pointer (some ⟨(a.add (k * 5)).block, (a.add (k * 5)).off + 1 + 2, none⟩)
      | 29 => u = .int .i64 r
      | 35 => u = .int .i64 c
      | 36 => ∃ g, u = .slice (some ⟨g, 0, none⟩) 0 0 ∧ wr.heap.size ≤ g ∧ Blk w9 g 43 #[]
      | 42 => u = .slice xA vs.length xcap
      | 43 => ∃ A cc, u = .slice A vs.length cc ∧ PV wr.heap.size vs w9 A
      | 44 => ∃ A cc, u = .agg #[.int .i64 r, .int .i64 c, .slice A vs.length cc] ∧ PV wr.heap.size vs w9 A
      | 6 => ∃ P, u = .pointer (some ⟨P, 0, none⟩)
      | _ => True
    refine wp_region_relV R (KeepsBut [34]) (J9 wr r c vs) (by kernel_rfl) (by kernel_rfl) (by kernel_rfl) ?mono9 ⟨(Below.refl _ _).drew, fun h => (by cases h), fun u hu => (by cases hu)⟩ ?step9 ?fin9
    case mono9 =>
      intro sl u wa wb hu hk
      match sl with
      | 36 =>
        obtain ⟨g, h1, h2, h3⟩ := hu
        exact ⟨g, h1, h2, KeepsBut.blk hk h3 (by decide)⟩
      | 43 | 44 =>
        obtain ⟨A, cc, h1, h2⟩ := hu
        exact ⟨A, cc, h1, h2.keeps hk (by decide)⟩
      | 0 | 1 | 2 | 3 | 4 | 5 | 6 | 7 | 8 | 9 | 10 | 11 | 12 | 13 | 14 | 15 | 16 | 17 | 18 | 19 | 20 | 21 | 22 | 23 | 24 | 25 | 26 | 27 | 28 | 29 | 30 | 31 | 32 | 33 | 34 | 35 | 37 | 38 | 39 | 40 | 41 | 42 | _ + 45 => exact hu
    case step9 =>
      intro i o ho
      match i, ho with
      | 0, ho =>
        cases ho
        intro V aa w9 hV hdep hval hj hsm hr
        have e0 : aa.tmps.getD 0 undef = .slice (some a) n lc := hsm 0 (by decide)
        rw [Array.getD_eq_getD_getElem?] at e0
        unfold Oper.wp
        simp only [execOp, Act.eval, Array.getD_eq_getD_getElem?, e0]
        go_simp
        exact ⟨_, rfl, rfl, KeepsBut.of_below (Below.refl _ _), hj.plain (Below.refl _ _) (by decide)⟩
      | 1, ho =>
        cases ho
        intro V aa w9 hV hdep hval hj hsm hr
        have e5 : aa.tmps.getD 5 undef = .int .i64 k := hsm 5 (by decide)
        rw [Array.getD_eq_getD_getElem?] at e5
        unfold Oper.wp
        simp only [execOp, Act.eval, Array.getD_eq_getD_getElem?, e5]
        go_simp
        exact ⟨_, rfl, rfl, KeepsBut.of_below (Below.refl _ _), hj.plain (Below.refl _ _) (by decide)⟩
      | 2, ho =>
        cases ho
        intro V aa w9 hV hdep hval hj hsm hr
        have e24 : aa.tmps.getD 24 undef = .slice (some a) n lc := hr 24 (by decide) (by apply Array.mem_toList_iff.1; repeat (first | exact List.Mem.head _ | apply List.Mem.tail))
        have e25 : aa.tmps.getD 25 undef = .int .i64 k := hr 25 (by decide) (by apply Array.mem_toList_iff.1; repeat (first | exact List.Mem.head _ | apply List.Mem.tail))
        rw [Array.getD_eq_getD_getElem?] at e24
        rw [Array.getD_eq_getD_getElem?] at e25
        unfold Oper.wp
        simp only [execOp, Act.eval, Array.getD_eq_getD_getElem?, e24, e25]
        go_simp
        exact ⟨_, rfl, rfl, KeepsBut.of_below (Below.refl _ _), hj.plain (Below.refl _ _) (by decide)⟩
      | 3, ho =>
        cases ho
        intro V aa w9 hV hdep hval hj hsm hr
        have e26 : aa.tmps.getD 26 undef = .pointer (some (a.add (k * 5))) := hr 26 (by decide) (by apply Array.mem_toList_iff.1; repeat (first | exact List.Mem.head _ | apply List.Mem.tail))
        rw [Array.getD_eq_getD_getElem?] at e26
        unfold Oper.wp
        simp only [execOp, Act.eval, Array.getD_eq_getD_getElem?, e26]
        go_simp
        exact ⟨_, rfl, rfl, KeepsBut.of_below (Below.refl _ _), hj.plain (Below.refl _ _) (by decide)⟩
      | 4, ho =>
        cases ho
        intro V aa w9 hV hdep hval hj hsm hr
        have e27 : aa.tmps.getD 27 undef = .pointer (some ⟨(a.add (k * 5)).block, (a.add (k * 5)).off + 1, none⟩) := hr 27 (by decide) (by apply Array.mem_toList_iff.1; repeat (first | exact List.Mem.head _ | apply List.Mem.tail))
        rw [Array.getD_eq_getD_getElem?] at e27
        unfold Oper.wp
        simp only [execOp, Act.eval, Array.getD_eq_getD_getElem?, e27]
        go_simp
        exact ⟨_, rfl, rfl, KeepsBut.of_below (Below.refl _ _), hj.plain (Below.refl _ _) (by decide)⟩
      | 5, ho =>
        cases ho
        intro V aa w9 hV hdep hval hj hsm hr
        have e28 : aa.tmps.getD 28 undef = .pointer (some ⟨(a.add (k * 5)).block, (a.add (k * 5)).off + 1, none⟩) := hr 28 (by decide) (by apply Array.mem_toList_iff.1; repeat (first | exact List.Mem.head _ | apply List.Mem.tail))
        have hbw : Below w1.heap.size w1 w9 := HB.out.trans (hj.bl.mono HB.out.size)
        have d1 := HC1.out w9 hbw
        rw [Array.getD_eq_getD_getElem?] at e28
        unfold Oper.wp
        simp only [execOp, Act.eval, Array.getD_eq_getD_getElem?, e28]
        go_simp
        exact ⟨_, rfl, rfl, KeepsBut.of_below (Below.refl _ _), hj.plain (Below.refl _ _) (by decide)⟩
      | 6, ho =>
        cases ho
        intro V aa w9 hV hdep hval hj hsm hr
        have e0 : aa.tmps.getD 0 undef = .slice (some a) n lc := hsm 0 (by decide)
        rw [Array.getD_eq_getD_getElem?] at e0
        unfold Oper.wp
        simp only [execOp, Act.eval, Array.getD_eq_getD_getElem?, e0]
        go_simp
        exact ⟨_, rfl, rfl, KeepsBut.of_below (Below.refl _ _), hj.plain (Below.refl _ _) (by decide)⟩
      | 7, ho =>
        cases ho
        intro V aa w9 hV hdep hval hj hsm hr
        have e5 : aa.tmps.getD 5 undef = .int .i64 k := hsm 5 (by decide)
        rw [Array.getD_eq_getD_getElem?] at e5
        unfold Oper.wp
        simp only [execOp, Act.eval, Array.getD_eq_getD_getElem?, e5]
        go_simp
        exact ⟨_, rfl, rfl, KeepsBut.of_below (Below.refl _ _), hj.plain (Below.refl _ _) (by decide)⟩
      | 8, ho =>
        cases ho
        intro V aa w9 hV hdep hval hj hsm hr
        have e30 : aa.tmps.getD 30 undef = .slice (some a) n lc := hr 30 (by decide) (by apply Array.mem_toList_iff.1; repeat (first | exact List.Mem.head _ | apply List.Mem.tail))
        have e31 : aa.tmps.getD 31 undef = .int .i64 k := hr 31 (by decide) (by apply Array.mem_toList_iff.1; repeat (first | exact List.Mem.head _ | apply List.Mem.tail))
        rw [Array.getD_eq_getD_getElem?] at e30
        rw [Array.getD_eq_getD_getElem?] at e31
        unfold Oper.wp
        simp only [execOp, Act.eval, Array.getD_eq_getD_getElem?, e30, e31]
        go_simp
        exact ⟨_, rfl, rfl, KeepsBut.of_below (Below.refl _ _), hj.plain (Below.refl _ _) (by decide)⟩
      | 9, ho =>
        cases ho
        intro V aa w9 hV hdep hval hj hsm hr
        have e32 : aa.tmps.getD 32 undef = .pointer (some (a.add (k * 5))) := hr 32 (by decide) (by apply Array.mem_toList_iff.1; repeat (first | exact List.Mem.head _ | apply List.Mem.tail))
        rw [Array.getD_eq_getD_getElem?] at e32
        unfold Oper.wp
        simp only [execOp, Act.eval, Array.getD_eq_getD_getElem?, e32]
        go_simp
        exact ⟨_, rfl, rfl, KeepsBut.of_below (Below.refl _ _), hj.plain (Below.refl _ _) (by decide)⟩
      | 10, ho =>
        cases ho
        intro V aa w9 hV hdep hval hj hsm hr
        have e33 : aa.tmps.getD 33 undef = .pointer (some ⟨(a.add (k * 5)).block, (a.add (k * 5)).off + 1, none⟩) := hr 33 (by decide) (by apply Array.mem_toList_iff.1; repeat (first | exact List.Mem.head _ | apply List.Mem.tail))
        rw [Array.getD_eq_getD_getElem?] at e33
        unfold Oper.wp
        simp only [execOp, Act.eval, Array.getD_eq_getD_getElem?, e33]
        go_simp
        exact ⟨_, rfl, rfl, KeepsBut.of_below (Below.refl _ _), hj.plain (Below.refl _ _) (by decide)⟩
      | 11, ho =>
        cases ho
        intro V aa w9 hV hdep hval hj hsm hr
        have e34 : aa.tmps.getD 34 undef = .pointer (some ⟨(a.add (k * 5)).block, (a.add (k * 5)).off + 1 + 1, none⟩) := hr 34 (by decide) (by apply Array.mem_toList_iff.1; repeat (first | exact List.Mem.head _ | apply List.Mem.tail))
        have hbw : Below w1.heap.size w1 w9 := HB.out.trans (hj.bl.mono HB.out.size)
        have d1 := HC2.out w9 hbw
        rw [Array.getD_eq_getD_getElem?] at e34
        unfold Oper.wp
        simp only [execOp, Act.eval, Array.getD_eq_getD_getElem?, e34]
        go_simp
        exact ⟨_, rfl, rfl, KeepsBut.of_below (Below.refl _ _), hj.plain (Below.refl _ _) (by decide)⟩
      | 12, ho =>
        cases ho
        intro V aa w9 hV hdep hval hj hsm hr
        unfold Oper.wp
        simp only [execOp, Act.eval, Array.getD_eq_getD_getElem?]
        go_simp
        exact ⟨_, rfl, ⟨w9.heap.size, rfl, hj.bl.size, Blk.new w9 43 #[]⟩, KeepsBut.of_below ((Below.refl _ _).alloc (Nat.le_refl _) _), hj.plain ((Below.refl _ _).alloc (Nat.le_refl _) _) (by decide)⟩
      | 13, ho =>
        cases ho
        intro V aa w9 hV hdep hval hj hsm hr
        have e0 : aa.tmps.getD 0 undef = .slice (some a) n lc := hsm 0 (by decide)
        rw [Array.getD_eq_getD_getElem?] at e0
        unfold Oper.wp
        simp only [execOp, Act.eval, Array.getD_eq_getD_getElem?, e0]
        go_simp
        exact ⟨_, rfl, rfl, KeepsBut.of_below (Below.refl _ _), hj.plain (Below.refl _ _) (by decide)⟩
      | 14, ho =>
        cases ho
        intro V aa w9 hV hdep hval hj hsm hr
        have e5 : aa.tmps.getD 5 undef = .int .i64 k := hsm 5 (by decide)
        rw [Array.getD_eq_getD_getElem?] at e5
        unfold Oper.wp
        simp only [execOp, Act.eval, Array.getD_eq_getD_getElem?, e5]
        go_simp
        exact ⟨_, rfl, rfl, KeepsBut.of_below (Below.refl _ _), hj.plain (Below.refl _ _) (by decide)⟩
      | 15, ho =>
        cases ho
        intro V aa w9 hV hdep hval hj hsm hr
        have e37 : aa.tmps.getD 37 undef = .slice (some a) n lc := hr 37 (by decide) (by apply Array.mem_toList_iff.1; repeat (first | exact List.Mem.head _ | apply List.Mem.tail))
        have e38 : aa.tmps.getD 38 undef = .int .i64 k := hr 38 (by decide) (by apply Array.mem_toList_iff.1; repeat (first | exact List.Mem.head _ | apply List.Mem.tail))
        rw [Array.getD_eq_getD_getElem?] at e37
        rw [Array.getD_eq_getD_getElem?] at e38
        unfold Oper.wp
        simp only [execOp, Act.eval, Array.getD_eq_getD_getElem?, e37, e38]
        go_simp
        exact ⟨_, rfl, rfl, KeepsBut.of_below (Below.refl _ _), hj.plain (Below.refl _ _) (by decide)⟩
      | 16, ho =>
        cases ho
        intro V aa w9 hV hdep hval hj hsm hr
        have e39 : aa.tmps.getD 39 undef = .pointer (some (a.add (k * 5))) := hr 39 (by decide) (by apply Array.mem_toList_iff.1; repeat (first | exact List.Mem.head _ | apply List.Mem.tail))
        rw [Array.getD_eq_getD_getElem?] at e39
        unfold Oper.wp
        simp only [execOp, Act.eval, Array.getD_eq_getD_getElem?, e39]
        go_simp
        exact ⟨_, rfl, rfl, KeepsBut.of_below (Below.refl _ _), hj.plain (Below.refl _ _) (by decide)⟩
      | 17, ho =>
        cases ho
        intro V aa w9 hV hdep hval hj hsm hr
        have e40 : aa.tmps.getD 40 undef = .pointer (some ⟨(a.add (k * 5)).block, (a.add (k * 5)).off + 1, none⟩) := hr 40 (by decide) (by apply Array.mem_toList_iff.1; repeat (first | exact List.Mem.head _ | apply List.Mem.tail))
        rw [Array.getD_eq_getD_getElem?] at e40
        unfold Oper.wp
        simp only [execOp, Act.eval, Array.getD_eq_getD_getElem?, e40]
        go_simp
        exact ⟨_, rfl, rfl, KeepsBut.of_below (Below.refl _ _), hj.plain (Below.refl _ _) (by decide)⟩
      | 18, ho =>
        cases ho
        intro V aa w9 hV hdep hval hj hsm hr
        have e41 : aa.tmps.getD 41 undef = .pointer (some ⟨(a.add (k * 5)).block, (a.add (k * 5)).off + 1 + 2, none⟩) := hr 41 (by decide) (by apply Array.mem_toList_iff.1; repeat (first | exact List.Mem.head _ | apply List.Mem.tail))
        have hbw : Below w1.heap.size w1 w9 := HB.out.trans (hj.bl.mono HB.out.size)
        have d1 := HC3.out w9 hbw
        rw [Array.getD_eq_getD_getElem?] at e41
        unfold Oper.wp
        simp only [execOp, Act.eval, Array.getD_eq_getD_getElem?, e41]
        go_simp
        exact ⟨_, rfl, rfl, KeepsBut.of_below (Below.refl _ _), hj.plain (Below.refl _ _) (by decide)⟩
      | 19, ho =>
        cases ho
        intro V aa w9 hV hdep hval hj hsm hr
        have e36 : ∃ g, aa.tmps.getD 36 undef = .slice (some ⟨g, 0, none⟩) 0 0 ∧ wr.heap.size ≤ g ∧ Blk w9 g 43 #[] := hr 36 (by decide) (by apply Array.mem_toList_iff.1; repeat (first | exact List.Mem.head _ | apply List.Mem.tail))
        have e42 : aa.tmps.getD 42 undef = .slice xA vs.length xcap := hr 42 (by decide) (by apply Array.mem_toList_iff.1; repeat (first | exact List.Mem.head _ | apply List.Mem.tail))
        obtain ⟨g, e36', hg, hbg⟩ := e36
        have hbw : Below w1.heap.size w1 w9 := HB.out.trans (hj.bl.mono HB.out.size)
        obtain ⟨i0, hi0, hz0, hz1, hz2⟩ := HC.out
        have hcr := HCR.out w9 hbw
        obtain ⟨v', w'', hrun, hown', hbw'⟩ := run_append_empty (P := Try.prog) w9 wr.heap.size 32 32 43 _ _ 5 40 Try.underlying32 hi0 hz0 hz1 hz2 (by rfl) g hbg hg hj.bl.size w9.heap.size xA vs.length xcap (chs vs) (crow_reads hcr) (chs_one' vs) (by have := HVS.out; omega) (by omega)
        have hpv : ∃ A cc, v' = .slice A vs.length cc ∧ PV wr.heap.size vs w'' A := by
          obtain ⟨A', c', rfl⟩ := own_form hown'
          refine ⟨A', c', rfl, fun hp => ?_⟩
          obtain ⟨g', cc, e1, e2, e3⟩ := VRow.of_own hown' hp (fun i hi => by
            obtain ⟨_, _, _, hc⟩ := hcr.2 hp
            exact (hc i hi).1)
          injection e1 with e1
          exact ⟨g', e1, e2, e3⟩
        exact Lib.wp_append_run w9 (.tmp 36) (.tmp 42) 32 32 rfl _ _ e36' e42 _ w'' hrun ⟨_, rfl, fun t ht => by cases ht; exact hpv, KeepsBut.of_below hbw', hj.plain hbw' (by decide)⟩
      | 20, ho =>
        cases ho
        intro V aa w9 hV hdep hval hj hsm hr
        have e29 : aa.tmps.getD 29 undef = .int .i64 r := hr 29 (by decide) (by apply Array.mem_toList_iff.1; repeat (first | exact List.Mem.head _ | apply List.Mem.tail))
        have e35 : aa.tmps.getD 35 undef = .int .i64 c := hr 35 (by decide) (by apply Array.mem_toList_iff.1; repeat (first | exact List.Mem.head _ | apply List.Mem.tail))
        have e43 : ∃ A cc, aa.tmps.getD 43 undef = .slice A vs.length cc ∧ PV wr.heap.size vs w9 A := hr 43 (by decide) (by apply Array.mem_toList_iff.1; repeat (first | exact List.Mem.head _ | apply List.Mem.tail))
        obtain ⟨A', cc, e43', hpv⟩ := e43
        rw [Array.getD_eq_getD_getElem?] at e29 e35 e43'
        unfold Oper.wp
        simp only [execOp, Act.eval, Array.getD_eq_getD_getElem?, e29, e35, e43']
        go_simp
        exact ⟨_, rfl, ⟨A', cc, rfl, hpv⟩, KeepsBut.of_below (Below.refl _ _), hj.plain (Below.refl _ _) (by decide)⟩
      | 21, ho =>
        cases ho
        intro V aa w9 hV hdep hval hj hsm hr
        unfold Oper.wp
        simp only [execOp, Act.eval, Array.getD_eq_getD_getElem?]
        go_simp
        exact ⟨_, rfl, ⟨_, rfl⟩, KeepsBut.of_below ((Below.refl _ _).alloc (Nat.le_refl _) _), hj.alloc hV⟩
      | 22, ho =>
        cases ho
        intro V aa w9 hV hdep hval hj hsm hr
        have e6 : ∃ P, aa.tmps.getD 6 undef = .pointer (some ⟨P, 0, none⟩) := hr 6 (by decide) (by apply Array.mem_toList_iff.1; repeat (first | exact List.Mem.head _ | apply List.Mem.tail))
        have e44 : ∃ A cc, aa.tmps.getD 44 undef = .agg #[.int .i64 r, .int .i64 c, .slice A vs.length cc] ∧ PV wr.heap.size vs w9 A := hr 44 (by decide) (by apply Array.mem_toList_iff.1; repeat (first | exact List.Mem.head _ | apply List.Mem.tail))
        obtain ⟨P, e6'⟩ := e6
        obtain ⟨A', cc, e44', hpv⟩ := e44
        have h21 : V 21 = some (.pointer (some ⟨P, 0, none⟩)) := by
          have h1 := hval 21 _ 6 rfl rfl (hdep ⟨21, Ground.data⟩ (by simp) (by decide))
          rw [h1]
          exact congrArg some e6'
        obtain ⟨P', h1, h2, h3, _⟩ := hj.box _ h21
        injection h1 with h1
        injection h1 with h1
        injection h1 with h1
        subst h1
        have b := h3 hV
        have z0 := b.cell 0
        have z1 := b.cell 1
        have z2 := b.cell 2
        have f0 := b.frozen 0
        have f1 := b.frozen 1
        have f2 := b.frozen 2
        have bl9 := hj.bl
        have b3 := ((b.set_ 0 (.int .i64 r)).set_ 1 (.int .i64 c)).set_ 2 (.slice A' vs.length cc)
        have kk : KeepsBut [34] w9 (((w9.setCell ⟨P, 0, none⟩ (.int .i64 r)).setCell ⟨P, 1, none⟩ (.int .i64 c)).setCell ⟨P, 2, none⟩ (.slice A' vs.length cc)) := ((keeps_set (p := ⟨P, 0, none⟩) b _).trans (keeps_set (p := ⟨P, 1, none⟩) (b.set_ 0 _) _)).trans (keeps_set (p := ⟨P, 2, none⟩) ((b.set_ 0 _).set_ 1 _) _)
        have J : J9 wr r c vs (setV V 22 undef) (((w9.setCell ⟨P, 0, none⟩ (.int .i64 r)).setCell ⟨P, 1, none⟩ (.int .i64 c)).setCell ⟨P, 2, none⟩ (.slice A' vs.length cc)) := by
          refine ⟨((bl9.setCell (p := ⟨P, 0, none⟩) h2 _).setCell (p := ⟨P, 1, none⟩) h2 _).setCell (p := ⟨P, 2, none⟩) h2 _, fun _ => ?_, fun u hu => ?_⟩
          · rw [show setV V 22 undef 21 = V 21 from if_neg (by decide), h21]; rfl
          · rw [show setV V 22 undef 21 = V 21 from if_neg (by decide), h21] at hu
            injection hu with hu
            refine ⟨P, hu.symm, h2, fun hn => ?_, fun z hz => ⟨A', cc, b3, hpv.keeps kk (by decide)⟩⟩
            rw [show setV V 22 undef 22 = some undef from if_pos rfl] at hn
            cases hn
        have HJ := hide J
        have HK := hide kk
        clear J kk b b3 h3 bl9 hj
        rw [Array.getD_eq_getD_getElem?] at e6' e44'
        unfold Oper.wp
        simp only [execOp, Act.eval, Array.getD_eq_getD_getElem?, e6', e44']
        go_simp
        exact ⟨HK.out, HJ.out⟩
      | i + 23, ho => cases ho
    case fin9 =>
      intro ff V w9 hVs hj hr
      have h21 : V 21 = some (ff 6) := hVs 21 _ rfl
      have h22 : V 22 = some undef := hVs 22 _ rfl
      obtain ⟨P, e6, hP, _, hb⟩ := hj.box _ h21
      obtain ⟨pA, pc, bP, pv⟩ := hb _ h22
      have bl9 := hj.bl
      have B9 := hide bP
      have PV9 := hide pv
      have AW : Hid (∀ g, wr.heap.size ≤ g → Away g ls ∧ Away g ms) := hide fun g hg => ⟨P1.out.away hg, P2.out.away hg⟩
      have P1 := hide (P1.out.below bl9)
      have RW := hide (fun (e : rowOf w9 U = some P) => by
        rw [P2.out.row_below bl9] at e
        have := P2.out.row_lt e
        omega : rowOf w9 U ≠ some P)
      have P2 := hide (P2.out.below bl9)
      have HB9 := hide (HB.out.trans (bl9.mono HB.out.size))
      have HP := hide hP
      clear hVs hj hr h21 h22 hb bP pv bl9 hP
      simp only [putAll, slotsOf, List.take, List.drop, List.filterMap_cons, List.filterMap_nil, List.foldl_cons, List.foldl_nil, Act.put, e6]
      simp only [List.setIfInBounds_toArray, List.set_cons_succ, List.set_cons_zero]
      have c0 := HC0.out w9 HB9.out
      rcases RM.out with hm | hm | hm | hm
      · obtain ⟨b, hbm⟩ : ∃ b, decide (mayV r c vs) = b := ⟨_, rfl⟩
        have HBM := hide hbm
        clear hbm
        go_wp2_with fail
        let R : Nat → Value → World → Prop := fun sl u _ => match sl with
          | 64 => u = .pointer (some ⟨T, 0, none⟩)
          | 65 => u = .agg #[.int .i64 r, .int .i64 c, .slice pA vs.length pc]
          | 66 | 73 | 78 => u = .slice (some a) n lc
          | 67 | 74 | 79 => u = .int .i64 k
          | 68 | 75 | 80 => u = .pointer (some (a.add (k * 5)))
          | 69 | 81 => u = .pointer (some ⟨(a.add (k * 5)).block, (a.add (k * 5)).off + 4, none⟩)
          | 70 | 82 => u = .bool off
          | 71 | 83 => u = .int .i64 (bif b then 0 else 2)
          | 72 => u = .pointer (some ⟨U, 0, none⟩)
          | 76 => u = .pointer (some ⟨(a.add (k * 5)).block, (a.add (k * 5)).off + 1, none⟩)
          | 77 => u = .agg #[.int .i64 r, .int .i64 c, .slice xA vs.length xcap]
          | 84 => u = .bool false
          | _ => True
        refine wp_region_relV R (fun _ _ => True) (J17 w1 w9 T U w1.heap.size P ls ms b r c vs off pA pc wr.heap.size) (by kernel_rfl) (by kernel_rfl) (by kernel_rfl) (fun t v _ _ h1 _ => h1) ⟨fun _ => P1.out.below (Below.refl _ _).drew, fun h => (by cases h), fun _ => ⟨P2.out.below (Below.refl _ _).drew, RW.out⟩, fun h => (by cases h), HB9.out.drew, Nat.le_refl _, B9.out.drew, PV9.out.keeps (KeepsBut.of_below (tys := []) (Below.refl _ _).drew) (by decide)⟩ ?step17 ?fin17
        case step17 =>
          intro i o ho
          match i, ho with
          | 0, ho =>
            cases ho
            intro V aa wx hV hdep hval hj hsm hr
            have e3 : aa.tmps.getD 3 undef = .pointer (some ⟨T, 0, none⟩) := hsm 3 (by decide)
            rw [Array.getD_eq_getD_getElem?] at e3
            unfold Oper.wp
            simp only [execOp, Act.eval, Array.getD_eq_getD_getElem?, e3]
            go_simp
            exact ⟨_, rfl, rfl, hj.plain (by decide)⟩
          | 1, ho =>
            cases ho
            intro V aa wx hV hdep hval hj hsm hr
            have e6 : aa.tmps.getD 6 undef = .pointer (some ⟨P, 0, none⟩) := hsm 6 (by decide)
            have z0 := hj.bk.cell 0
            have z1 := hj.bk.cell 1
            have z2 := hj.bk.cell 2
            rw [Array.getD_eq_getD_getElem?] at e6
            unfold Oper.wp
            simp only [execOp, Act.eval, Array.getD_eq_getD_getElem?, e6]
            go_simp
            exact ⟨_, rfl, rfl, hj.plain (by decide)⟩
          | 2, ho =>
            cases ho
            intro V aa wx hV hdep hval hj hsm hr
            have e0 : aa.tmps.getD 0 undef = .slice (some a) n lc := hsm 0 (by decide)
            rw [Array.getD_eq_getD_getElem?] at e0
            unfold Oper.wp
            simp only [execOp, Act.eval, Array.getD_eq_getD_getElem?, e0]
            go_simp
            exact ⟨_, rfl, rfl, hj.plain (by decide)⟩
          | 3, ho =>
            cases ho
            intro V aa wx hV hdep hval hj hsm hr
            have e5 : aa.tmps.getD 5 undef = .int .i64 k := hsm 5 (by decide)
            rw [Array.getD_eq_getD_getElem?] at e5
            unfold Oper.wp
            simp only [execOp, Act.eval, Array.getD_eq_getD_getElem?, e5]
            go_simp
            exact ⟨_, rfl, rfl, hj.plain (by decide)⟩
          | 4, ho =>
            cases ho
            intro V aa wx hV hdep hval hj hsm hr
            have e66 : aa.tmps.getD 66 undef = .slice (some a) n lc := hr 66 (by decide) (by apply Array.mem_toList_iff.1; repeat (first | exact List.Mem.head _ | apply List.Mem.tail))
            have e67 : aa.tmps.getD 67 undef = .int .i64 k := hr 67 (by decide) (by apply Array.mem_toList_iff.1; repeat (first | exact List.Mem.head _ | apply List.Mem.tail))
            rw [Array.getD_eq_getD_getElem?] at e66
            rw [Array.getD_eq_getD_getElem?] at e67
            unfold Oper.wp
            simp only [execOp, Act.eval, Array.getD_eq_getD_getElem?, e66, e67]
            go_simp
            exact ⟨_, rfl, rfl, hj.plain (by decide)⟩
          | 5, ho =>
            cases ho
            intro V aa wx hV hdep hval hj hsm hr
            have e68 : aa.tmps.getD 68 undef = .pointer (some (a.add (k * 5))) := hr 68 (by decide) (by apply Array.mem_toList_iff.1; repeat (first | exact List.Mem.head _ | apply List.Mem.tail))
            rw [Array.getD_eq_getD_getElem?] at e68
            unfold Oper.wp
            simp only [execOp, Act.eval, Array.getD_eq_getD_getElem?, e68]
            go_simp
            exact ⟨_, rfl, rfl, hj.plain (by decide)⟩
          | 6, ho =>
            cases ho
            intro V aa wx hV hdep hval hj hsm hr
            have e69 : aa.tmps.getD 69 undef = .pointer (some ⟨(a.add (k * 5)).block, (a.add (k * 5)).off + 4, none⟩) := hr 69 (by decide) (by apply Array.mem_toList_iff.1; repeat (first | exact List.Mem.head _ | apply List.Mem.tail))
            have d1 := HC4.out wx hj.bl
            rw [Array.getD_eq_getD_getElem?] at e69
            unfold Oper.wp
            simp only [execOp, Act.eval, Array.getD_eq_getD_getElem?, e69]
            go_simp
            exact ⟨_, rfl, rfl, hj.plain (by decide)⟩
          | 7, ho =>
            cases ho
            intro V aa wx hV hdep hval hj hsm hr
            have e64 : aa.tmps.getD 64 undef = .pointer (some ⟨T, 0, none⟩) := hr 64 (by decide) (by apply Array.mem_toList_iff.1; repeat (first | exact List.Mem.head _ | apply List.Mem.tail))
            have e65 : aa.tmps.getD 65 undef = .agg #[.int .i64 r, .int .i64 c, .slice pA vs.length pc] := hr 65 (by decide) (by apply Array.mem_toList_iff.1; repeat (first | exact List.Mem.head _ | apply List.Mem.tail))
            have e70 : aa.tmps.getD 70 undef = .bool off := hr 70 (by decide) (by apply Array.mem_toList_iff.1; repeat (first | exact List.Mem.head _ | apply List.Mem.tail))
            rw [Array.getD_eq_getD_getElem?] at e64
            rw [Array.getD_eq_getD_getElem?] at e65
            rw [Array.getD_eq_getD_getElem?] at e70
            unfold Oper.wp
            simp only [execOp, Act.eval, Array.getD_eq_getD_getElem?, e64, e65, e70]
            go_simp
            refine (PushA w9.heap.size b T _ ls r c pA pc vs off wx HBM.out hj.sz (hj.a0 hV) HTU.out.1 (hj.pv.crow (by have := HVS.out; omega)) (by have := HVS.out; omega) (by have := HL.out; have := HN.out; omega)).mono ?_
            rintro e w' ⟨rfl, hp, hb, hk, _⟩
            refine ⟨_, rfl, rfl, ⟨fun h => ?_, fun _ => hp, fun h => ?_, fun h => ?_, hj.bl.trans hb, Nat.le_trans hj.sz hk.1, KeepsBut.blk hk hj.bk (by decide), hj.pv.keeps hk (by decide)⟩⟩
            · rw [show setV V 7 _ 7 = some _ from if_pos rfl] at h
              cases h
            · rw [show setV V 7 _ 19 = V 19 from if_neg (by decide)] at h
              exact ⟨(hj.b0 h).1.keep hk (by decide) (by decide) (by decide) (by decide) (by decide), by rw [(hj.b0 h).1.row_keep hk (by decide)]; exact (hj.b0 h).2⟩
            · rw [show setV V 7 _ 19 = V 19 from if_neg (by decide)] at h
              exact (hj.b1 h).keep hk (by decide) (by decide) (by decide) (by decide) (by decide)
          | 8, ho =>
            cases ho
            intro V aa wx hV hdep hval hj hsm hr
            have e4 : aa.tmps.getD 4 undef = .pointer (some ⟨U, 0, none⟩) := hsm 4 (by decide)
            rw [Array.getD_eq_getD_getElem?] at e4
            unfold Oper.wp
            simp only [execOp, Act.eval, Array.getD_eq_getD_getElem?, e4]
            go_simp
            exact ⟨_, rfl, rfl, hj.plain (by decide)⟩
          | 9, ho =>
            cases ho
            intro V aa wx hV hdep hval hj hsm hr
            have e0 : aa.tmps.getD 0 undef = .slice (some a) n lc := hsm 0 (by decide)
            rw [Array.getD_eq_getD_getElem?] at e0
            unfold Oper.wp
            simp only [execOp, Act.eval, Array.getD_eq_getD_getElem?, e0]
            go_simp
            exact ⟨_, rfl, rfl, hj.plain (by decide)⟩
          | 10, ho =>
            cases ho
            intro V aa wx hV hdep hval hj hsm hr
            have e5 : aa.tmps.getD 5 undef = .int .i64 k := hsm 5 (by decide)
            rw [Array.getD_eq_getD_getElem?] at e5
            unfold Oper.wp
            simp only [execOp, Act.eval, Array.getD_eq_getD_getElem?, e5]
            go_simp
            exact ⟨_, rfl, rfl, hj.plain (by decide)⟩
          | 11, ho =>
            cases ho
            intro V aa wx hV hdep hval hj hsm hr
            have e73 : aa.tmps.getD 73 undef = .slice (some a) n lc := hr 73 (by decide) (by apply Array.mem_toList_iff.1; repeat (first | exact List.Mem.head _ | apply List.Mem.tail))
            have e74 : aa.tmps.getD 74 undef = .int .i64 k := hr 74 (by decide) (by apply Array.mem_toList_iff.1; repeat (first | exact List.Mem.head _ | apply List.Mem.tail))
            rw [Array.getD_eq_getD_getElem?] at e73
            rw [Array.getD_eq_getD_getElem?] at e74
            unfold Oper.wp
            simp only [execOp, Act.eval, Array.getD_eq_getD_getElem?, e73, e74]
            go_simp
            exact ⟨_, rfl, rfl, hj.plain (by decide)⟩
          | 12, ho =>
            cases ho
            intro V aa wx hV hdep hval hj hsm hr
            have e75 : aa.tmps.getD 75 undef = .pointer (some (a.add (k * 5))) := hr 75 (by decide) (by apply Array.mem_toList_iff.1; repeat (first | exact List.Mem.head _ | apply List.Mem.tail))
            rw [Array.getD_eq_getD_getElem?] at e75
            unfold Oper.wp
            simp only [execOp, Act.eval, Array.getD_eq_getD_getElem?, e75]
            go_simp
            exact ⟨_, rfl, rfl, hj.plain (by decide)⟩
          | 13, ho =>
            cases ho
            intro V aa wx hV hdep hval hj hsm hr
            have e76 : aa.tmps.getD 76 undef = .pointer (some ⟨(a.add (k * 5)).block, (a.add (k * 5)).off + 1, none⟩) := hr 76 (by decide) (by apply Array.mem_toList_iff.1; repeat (first | exact List.Mem.head _ | apply List.Mem.tail))
            have d1 := HC1.out wx hj.bl
            have d2 := HC2.out wx hj.bl
            have d3 := HC3.out wx hj.bl
            rw [Array.getD_eq_getD_getElem?] at e76
            unfold Oper.wp
            simp only [execOp, Act.eval, Array.getD_eq_getD_getElem?, e76]
            go_simp
            exact ⟨_, rfl, rfl, hj.plain (by decide)⟩
          | 14, ho =>
            cases ho
            intro V aa wx hV hdep hval hj hsm hr
            have e0 : aa.tmps.getD 0 undef = .slice (some a) n lc := hsm 0 (by decide)
            rw [Array.getD_eq_getD_getElem?] at e0
            unfold Oper.wp
            simp only [execOp, Act.eval, Array.getD_eq_getD_getElem?, e0]
            go_simp
            exact ⟨_, rfl, rfl, hj.plain (by decide)⟩
          | 15, ho =>
            cases ho
            intro V aa wx hV hdep hval hj hsm hr
            have e5 : aa.tmps.getD 5 undef = .int .i64 k := hsm 5 (by decide)
            rw [Array.getD_eq_getD_getElem?] at e5
            unfold Oper.wp
            simp only [execOp, Act.eval, Array.getD_eq_getD_getElem?, e5]
            go_simp
            exact ⟨_, rfl, rfl, hj.plain (by decide)⟩
          | 16, ho =>
            cases ho
            intro V aa wx hV hdep hval hj hsm hr
            have e78 : aa.tmps.getD 78 undef = .slice (some a) n lc := hr 78 (by decide) (by apply Array.mem_toList_iff.1; repeat (first | exact List.Mem.head _ | apply List.Mem.tail))
            have e79 : aa.tmps.getD 79 undef = .int .i64 k := hr 79 (by decide) (by apply Array.mem_toList_iff.1; repeat (first | exact List.Mem.head _ | apply List.Mem.tail))
            rw [Array.getD_eq_getD_getElem?] at e78
            rw [Array.getD_eq_getD_getElem?] at e79
            unfold Oper.wp
            simp only [execOp, Act.eval, Array.getD_eq_getD_getElem?, e78, e79]
            go_simp
            exact ⟨_, rfl, rfl, hj.plain (by decide)⟩
          | 17, ho =>
            cases ho
            intro V aa wx hV hdep hval hj hsm hr
            have e80 : aa.tmps.getD 80 undef = .pointer (some (a.add (k * 5))) := hr 80 (by decide) (by apply Array.mem_toList_iff.1; repeat (first | exact List.Mem.head _ | apply List.Mem.tail))
            rw [Array.getD_eq_getD_getElem?] at e80
            unfold Oper.wp
            simp only [execOp, Act.eval, Array.getD_eq_getD_getElem?, e80]
            go_simp
            exact ⟨_, rfl, rfl, hj.plain (by decide)⟩
          | 18, ho =>
            cases ho
            intro V aa wx hV hdep hval hj hsm hr
            have e81 : aa.tmps.getD 81 undef = .pointer (some ⟨(a.add (k * 5)).block, (a.add (k * 5)).off + 4, none⟩) := hr 81 (by decide) (by apply Array.mem_toList_iff.1; repeat (first | exact List.Mem.head _ | apply List.Mem.tail))
            have d1 := HC4.out wx hj.bl
            rw [Array.getD_eq_getD_getElem?] at e81
            unfold Oper.wp
            simp only [execOp, Act.eval, Array.getD_eq_getD_getElem?, e81]
            go_simp
            exact ⟨_, rfl, rfl, hj.plain (by decide)⟩
          | 19, ho =>
            cases ho
            intro V aa wx hV hdep hval hj hsm hr
            have e72 : aa.tmps.getD 72 undef = .pointer (some ⟨U, 0, none⟩) := hr 72 (by decide) (by apply Array.mem_toList_iff.1; repeat (first | exact List.Mem.head _ | apply List.Mem.tail))
            have e77 : aa.tmps.getD 77 undef = .agg #[.int .i64 r, .int .i64 c, .slice xA vs.length xcap] := hr 77 (by decide) (by apply Array.mem_toList_iff.1; repeat (first | exact List.Mem.head _ | apply List.Mem.tail))
            have e82 : aa.tmps.getD 82 undef = .bool off := hr 82 (by decide) (by apply Array.mem_toList_iff.1; repeat (first | exact List.Mem.head _ | apply List.Mem.tail))
            rw [Array.getD_eq_getD_getElem?] at e72
            rw [Array.getD_eq_getD_getElem?] at e77
            rw [Array.getD_eq_getD_getElem?] at e82
            unfold Oper.wp
            simp only [execOp, Act.eval, Array.getD_eq_getD_getElem?, e72, e77, e82]
            go_simp
            refine (PushB w9.heap.size b U _ ms r c xA xcap vs off wx HBM.out hj.sz (hj.b0 hV).1 HTU.out.2 (fun w' hb => HCR.out w' (hj.bl.trans hb)) (by have := HVS.out; omega) (by have := HL.out; have := HN.out; have := SI.out.len; omega)).mono ?_
            rintro e w' ⟨rfl, hp, hb, hk⟩
            have hk4 := hk.keeps
            refine ⟨_, rfl, rfl, ⟨fun h => ?_, fun h => ?_, fun h => ?_, fun _ => hp, hj.bl.trans hb, Nat.le_trans hj.sz hk4.1, (hk.2 P _ _ (0, 0) hj.bk (by decide) fun _ => (hj.b0 hV).2).trans hj.bk, hj.pv.keeps hk4 (by decide)⟩⟩
            · rw [show setV V 19 _ 7 = V 7 from if_neg (by decide)] at h
              exact (hj.a0 h).keep hk4 (by decide) (by decide) (by decide)
            · rw [show setV V 19 _ 7 = V 7 from if_neg (by decide)] at h
              exact (hj.a1 h).keep hk4 (by decide) (by decide) (by decide)
            · rw [show setV V 19 _ 19 = some _ from if_pos rfl] at h
              cases h
          | 20, ho =>
            cases ho
            intro V aa wx hV hdep hval hj hsm hr
            have e71 : aa.tmps.getD 71 undef = .int .i64 (bif b then 0 else 2) := hr 71 (by decide) (by apply Array.mem_toList_iff.1; repeat (first | exact List.Mem.head _ | apply List.Mem.tail))
            have e83 : aa.tmps.getD 83 undef = .int .i64 (bif b then 0 else 2) := hr 83 (by decide) (by apply Array.mem_toList_iff.1; repeat (first | exact List.Mem.head _ | apply List.Mem.tail))
            rw [Array.getD_eq_getD_getElem?] at e71
            rw [Array.getD_eq_getD_getElem?] at e83
            unfold Oper.wp
            simp only [execOp, Act.eval, Array.getD_eq_getD_getElem?, e71, e83]
            go_simp
            exact ⟨_, rfl, rfl, hj.plain (by decide)⟩
          | i + 21, ho => cases ho
        case fin17 =>
          intro ff V wi hVs hj hr
          have h7 : (V 7).isSome = true := by rw [hVs 7 _ rfl]; rfl
          have h19 : (V 19).isSome = true := by rw [hVs 19 _ rfl]; rfl
          have e84 : ff 84 = .bool false := hr 84 (by decide)
          obtain ⟨ls2, ms2, TL⟩ : ∃ ls2 ms2, Hid (Tl w1 T U w1.heap.size P k ls2 ms2 r c vs.length pA pc wi) := by
            have h1 := hj.a1 h7
            have h2 := hj.b1 h19
            cases b with
            | false => exact ⟨ls, ms, hide ⟨h1, h2, SI.out, FT.out, by have := HL.out; omega, HTU.out, hj.bl, hj.bk, px_of hj.pv hwr.out fun g hg _ _ => AW.out g hg⟩⟩
            | true =>
              obtain ⟨g1, cap1, hg1, h1⟩ := h1
              obtain ⟨g2, cap2, hg2, h2⟩ := h2
              refine ⟨_, _, hide ⟨h1, h2, SI.out.app _ _ _ _ _ _ _ _ _, fun x hx => ?_, by have := HL.out; simp; omega, HTU.out, hj.bl, hj.bk, px_of hj.pv hwr.out fun g hg _ e => ?_⟩⟩
              · rcases List.mem_append.1 hx with hx | hx
                · exact FT.out x hx
                · rw [List.mem_singleton.1 hx]
                  exact ⟨(of_decide_eq_true HBM.out).1, HVS.out, by show 0 + 1 ≤ vs.length + _; have := (of_decide_eq_true HBM.out).1; omega⟩
              · have hgl : 0 < vs.length → g < w9.heap.size := fun hp => by
                  obtain ⟨g', e1, _, hv⟩ := PV9.out hp
                  rw [e] at e1
                  injection e1 with e1
                  injection e1 with e1
                  subst e1
                  exact hv.lt rfl
                have hp : 0 < vs.length := (of_decide_eq_true HBM.out).1
                have hgl := hgl hp
                exact ⟨(AW.out g hg).1.app fun e => by injection e with e; injection e with e; omega, (AW.out g hg).2.app fun e => by injection e with e; injection e with e; omega⟩
          clear hVs hj hr h7 h19
          simp only [putAll, slotsOf, List.take, List.drop, List.filterMap_cons, List.filterMap_nil, List.foldl_cons, List.foldl_nil, Act.put, e84]
          simp only [List.setIfInBounds_toArray, List.set_cons_succ, List.set_cons_zero]
          have HML : Hid (ls2.length ≤ 2000) := hide (by have := TL.out.l; have := HN.out; omega)
          go_wp2_with fail
          go_loopw [8] (fun vj ws => ∃ (j : Nat), j ≤ vs.length ∧ vj = .int .i64 j ∧ Hid (Tl w1 T U w1.heap.size P k ls2 ms2 r c vs.length pA pc ws)) (fun vj _ => vs.length - (intOf vj).toNat)
          case atStart => exact ⟨0, by omega, rfl, TL⟩
          case round =>
            clear TL
            obtain ⟨j, hj, rfl, TL⟩ := hrel
            have v1 : wr.cell? ⟨P, 2, none⟩ = some (.slice pA vs.length pc) := TL.out.bk.cell 2
            by_cases hjl : j < vs.length
            · obtain ⟨g, cs, rfl, hg, h1, h2, hb, hs⟩ := TL.out.px (by omega)
              have hjI : (j : Int) < (vs.length : Int) := by omega
              obtain ⟨ov, hov⟩ : ∃ v, cs[j * 5 + 3]? = some v := ⟨_, Array.getElem?_eq_getElem (by omega)⟩
              have cj : wr.cell? ⟨g, j * 5 + 3, none⟩ = some ov := (hb.cell (j * 5 + 3)).trans hov
              have fj := hb.frozen (j * 5 + 3)
              have T3 := hide (TL.out.far (j := j * 5 + 3) hg h1 h2 hb hs (.int .i64 (-7)))
              have h64 := HVS.out
              clear hg h1 h2 hb hs hov TL
              go_wp2_with fail
              go_roundw
              case rel => exact ⟨j + 1, by omega, by go_num, T3⟩
              case measure => simp [intOf]; omega
            · have hjI : ¬ (j : Int) < (vs.length : Int) := by omega
              obtain ⟨wz, hwz⟩ : ∃ x, x = wr := ⟨_, rfl⟩
              rw [← hwz] at TL v1 ⊢
              clear hwz hjl
              have hlm : ls2.length = ms2.length := TL.out.s.len
              have hlf : leftS ls2 = leftS ms2 := TL.out.s.left
              have hms : ∀ x ∈ ms2, x.fit := TL.out.s.fit TL.out.f
              obtain ⟨Aq, cq, _, _, _, _, hbU, _⟩ := TL.out.b.open_
              have hne : Nonempty (BelowOf wz) := ⟨⟨_, Below.refl _ _⟩⟩
              have u0 : ∀ p : BelowOf wz, p.world.cell? ⟨U, 0, none⟩ = some (.slice Aq ls2.length cq) := fun p => p.cell hbU.lt (by rw [hlm]; exact hbU.cell 0)
              have DA := hide (fun (p : BelowOf wz) => depth_a T _ ls2 p.world (TL.out.a.below p.below))
              have LA := hide (fun (p : BelowOf wz) => Left_a T _ ls2 p.world (TL.out.a.below p.below) TL.out.f)
              have LB := hide (fun (p : BelowOf wz) => Left_b U _ ms2 p.world (TL.out.b.below p.below) hms)
              rw [← hlf] at LB
              have SA := hide (fun (w' : World) (hb : Below wz.heap.size wz w') => Steps_a T _ ls2 w' (TL.out.a.below hb) TL.out.f)
              have SB := hide (fun (w' : World) (hb : Below wz.heap.size wz w') => Steps_b U _ ms2 w' (TL.out.b.below hb) hms)
              rw [← TL.out.s.steps, ← hlm] at SB
              have hll : leftS ls2 ≤ 2000000 := by
                have h1 := leftS_le ls2 TL.out.f
                have h2 := HML.out
                omega
              have HLS : Hid (ls2.length = (stepsOf ls2).length) := hide (by unfold stepsOf; simp)
              have hmlI := HML.out
              obtain ⟨lz, hlz⟩ : ∃ x, leftS ls2 = x := ⟨_, rfl⟩
              rw [hlz] at LA LB hll
              obtain ⟨nz, hnz⟩ : ∃ x, ls2.length = x := ⟨_, rfl⟩
              rw [hnz] at u0 DA SA SB hmlI HLS
              have HNZ := hide hnz
              clear hlm hlf hms hbU hlz hnz
              go_wp2_with fail
              refine wp_region_quiet_below (by kernel_rfl) (by kernel_rfl) ?_
              repeat (go_big_quiet_step (first
                | (go_at_call 13; exact calls_below_same (DA.out _))
                | (go_at_call 14; exact calls_below (LA.out _))
                | (go_at_call 15; exact calls_below (LB.out _))))
              refine wpQuiet_nil ?_
              rintro Wq ⟨⟨_, hq⟩, rfl⟩
              have SAq := hide (SA.out Wq hq)
              have HQ := hide hq
              clear hq u0 hne v1
              go_wp2_with fail
              refine SAq.out.mono ?_
              rintro e wa ⟨va, rfl, hoa, hba⟩
              have hqa := HQ.out.trans (hba.mono HQ.out.size)
              have SBa := hide (SB.out wa hqa)
              have HOA := hide hoa
              have HQA := hide hqa
              have HSA := hide hba.size
              clear hoa hba hqa
              go_wp2_with fail
              refine SBa.out.mono ?_
              rintro e wb ⟨vb, rfl, hob, hbb⟩
              have hqb := HQA.out.trans (hbb.mono HQA.out.size)
              have hoa := own_belowR HOA.out hbb
              have SM1 : Hid (Calls Try.prog 17 #[va, vb] wb fun e w' => e = .returned (.bool true) ∧ Below wb.heap.size wb w') := hide (Same_b _ _ va vb (stepsOf ls2) wb (by rw [← HLS.out]; exact hoa) (by rw [← HLS.out]; exact hob) (by rw [← HLS.out]; exact hmlI))
              have HOA := hide hoa
              have HQB := hide hqb
              clear hoa hob hbb hqb
              go_wp2_with fail
              refine SM1.out.mono ?_
              rintro e wc ⟨rfl, hbc⟩
              have hqc := HQB.out.trans (hbc.mono HQB.out.size)
              have hoc := own_belowR HOA.out hbc
              have A9 := hide (TL.out.a.below hqc)
              have B9' := hide (TL.out.b.below hqc)
              have HB9' := hide (TL.out.bl.trans (hqc.mono TL.out.bl.size))
              have S9 := hide TL.out.s
              have F9 := hide TL.out.f
              have L9 := hide TL.out.l
              have TU9 := hide TL.out.tu
              have HSQ := hide (show w1.heap.size ≤ Wq.heap.size from Nat.le_trans TL.out.bl.size HQ.out.size)
              obtain ⟨aa, ca, rfl⟩ := own_form hoc
              have HOC : Hid (∃ xs, wc.ownsRow Wq.heap.size 49 8 (.slice aa nz ca) nz xs) := hide ⟨_, hoc⟩
              clear hbc hqc hoc TL DA LA LB SA SB
              go_wp2_with fail
              go_loopw [10] (fun vj ws => ∃ (j : Nat), j ≤ nz ∧ vj = .int .i64 j ∧ Hid (StA ws T w1.heap.size ls2) ∧ Hid (StB ws U w1.heap.size ms2) ∧ Hid (Below w1.heap.size w1 ws) ∧ Hid (∃ xs, ws.ownsRow Wq.heap.size 49 8 (.slice aa nz ca) nz xs)) (fun vj _ => nz - (intOf vj).toNat)
              case atStart => exact ⟨0, by omega, rfl, A9, B9', HB9', HOC⟩
              case round =>
                clear A9 B9' HB9' HOC
                obtain ⟨j, hj, rfl, A9, B9', HB9', HOC⟩ := hrel
                by_cases hjl : j < nz
                · obtain ⟨xs, ho⟩ := HOC.out
                  have hlen := ho.1
                  obtain ⟨g, rfl, hge, _, ⟨cs, hb⟩, hfr, _, hcc⟩ := own_cell ho (by omega)
                  have hjI : (j : Int) < (nz : Int) := by omega
                  obtain ⟨ov, hov⟩ : ∃ v, xs[j * 8 + 1]? = some v := ⟨_, List.getElem?_eq_getElem (by omega)⟩
                  have cj : wr.cell? ⟨g, j * 8 + 1, none⟩ = some ov := hcc _ _ hov
                  have fj := hfr (j * 8 + 1)
                  have kk := keeps_set (p := ⟨g, j * 8 + 1, none⟩) hb (.int .i64 (-7))
                  have A10 := hide (A9.out.keep kk (by decide) (by decide) (by decide))
                  have B10 := hide (B9'.out.keep kk (by decide) (by decide) (by decide) (by decide) (by decide))
                  have HB10 := hide (HB9'.out.setCell (p := ⟨g, j * 8 + 1, none⟩) (Nat.le_trans HSQ.out hge) (.int .i64 (-7)))
                  have HO10 : Hid (∃ xs, (wr.setCell ⟨g, j * 8 + 1, none⟩ (.int .i64 (-7))).ownsRow Wq.heap.size 49 8 (.slice (some ⟨g, 0, none⟩) nz ca) nz xs) := hide ⟨_, own_set ho _⟩
                  clear ho hge hb hfr hcc kk hlen hov
                  go_wp2_with fail
                  go_roundw
                  case rel => exact ⟨j + 1, by omega, by go_num, A10, B10, HB10, HO10⟩
                  case measure => simp [intOf]; omega
                · have hjI : ¬ (j : Int) < (nz : Int) := by omega
                  have hn200 := HN.out
                  go_wp2_with fail
                  go_roundw
                  case rel => exact ⟨k + 1, T, U, ls2, ms2, by omega, by go_num, rfl, rfl, A9, B9', S9, F9, L9, TU9, HB9'⟩
                  case measure => simp [intOf]; omega
      · obtain ⟨b, hbm⟩ : ∃ b, decide (mayV r c vs) = b := ⟨_, rfl⟩
        have HBM := hide hbm
        clear hbm
        go_wp2_with fail
        let R : Nat → Value → World → Prop := fun sl u _ => match sl with
          | 64 => u = .pointer (some ⟨T, 0, none⟩)
          | 65 => u = .agg #[.int .i64 r, .int .i64 c, .slice pA vs.length pc]
          | 66 | 73 | 78 => u = .slice (some a) n lc
          | 67 | 74 | 79 => u = .int .i64 k
          | 68 | 75 | 80 => u = .pointer (some (a.add (k * 5)))
          | 69 | 81 => u = .pointer (some ⟨(a.add (k * 5)).block, (a.add (k * 5)).off + 4, none⟩)
          | 70 | 82 => u = .bool off
          | 71 | 83 => u = .int .i64 (bif b then 0 else 2)
          | 72 => u = .pointer (some ⟨U, 0, none⟩)
          | 76 => u = .pointer (some ⟨(a.add (k * 5)).block, (a.add (k * 5)).off + 1, none⟩)
          | 77 => u = .agg #[.int .i64 r, .int .i64 c, .slice xA vs.length xcap]
          | 84 => u = .bool false
          | _ => True
        refine wp_region_relV R (fun _ _ => True) (J17 w1 w9 T U w1.heap.size P ls ms b r c vs off pA pc wr.heap.size) (by kernel_rfl) (by kernel_rfl) (by kernel_rfl) (fun t v _ _ h1 _ => h1) ⟨fun _ => P1.out.below (Below.refl _ _).drew, fun h => (by cases h), fun _ => ⟨P2.out.below (Below.refl _ _).drew, RW.out⟩, fun h => (by cases h), HB9.out.drew, Nat.le_refl _, B9.out.drew, PV9.out.keeps (KeepsBut.of_below (tys := []) (Below.refl _ _).drew) (by decide)⟩ ?step17 ?fin17
        case step17 =>
          intro i o ho
          match i, ho with
          | 0, ho =>
            cases ho
            intro V aa wx hV hdep hval hj hsm hr
            have e3 : aa.tmps.getD 3 undef = .pointer (some ⟨T, 0, none⟩) := hsm 3 (by decide)
            rw [Array.getD_eq_getD_getElem?] at e3
            unfold Oper.wp
            simp only [execOp, Act.eval, Array.getD_eq_getD_getElem?, e3]
            go_simp
            exact ⟨_, rfl, rfl, hj.plain (by decide)⟩
          | 1, ho =>
            cases ho
            intro V aa wx hV hdep hval hj hsm hr
            have e6 : aa.tmps.getD 6 undef = .pointer (some ⟨P, 0, none⟩) := hsm 6 (by decide)
            have z0 := hj.bk.cell 0
            have z1 := hj.bk.cell 1
            have z2 := hj.bk.cell 2
            rw [Array.getD_eq_getD_getElem?] at e6
            unfold Oper.wp
            simp only [execOp, Act.eval, Array.getD_eq_getD_getElem?, e6]
            go_simp
            exact ⟨_, rfl, rfl, hj.plain (by decide)⟩
          | 2, ho =>
            cases ho
            intro V aa wx hV hdep hval hj hsm hr
            have e0 : aa.tmps.getD 0 undef = .slice (some a) n lc := hsm 0 (by decide)
            rw [Array.getD_eq_getD_getElem?] at e0
            unfold Oper.wp
            simp only [execOp, Act.eval, Array.getD_eq_getD_getElem?, e0]
            go_simp
            exact ⟨_, rfl, rfl, hj.plain (by decide)⟩
          | 3, ho =>
            cases ho
            intro V aa wx hV hdep hval hj hsm hr
            have e5 : aa.tmps.getD 5 undef = .int .i64 k := hsm 5 (by decide)
            rw [Array.getD_eq_getD_getElem?] at e5
            unfold Oper.wp
            simp only [execOp, Act.eval, Array.getD_eq_getD_getElem?, e5]
            go_simp
            exact ⟨_, rfl, rfl, hj.plain (by decide)⟩
          | 4, ho =>
            cases ho
            intro V aa wx hV hdep hval hj hsm hr
            have e66 : aa.tmps.getD 66 undef = .slice (some a) n lc := hr 66 (by decide) (by apply Array.mem_toList_iff.1; repeat (first | exact List.Mem.head _ | apply List.Mem.tail))
            have e67 : aa.tmps.getD 67 undef = .int .i64 k := hr 67 (by decide) (by apply Array.mem_toList_iff.1; repeat (first | exact List.Mem.head _ | apply List.Mem.tail))
            rw [Array.getD_eq_getD_getElem?] at e66
            rw [Array.getD_eq_getD_getElem?] at e67
            unfold Oper.wp
            simp only [execOp, Act.eval, Array.getD_eq_getD_getElem?, e66, e67]
            go_simp
            exact ⟨_, rfl, rfl, hj.plain (by decide)⟩
          | 5, ho =>
            cases ho
            intro V aa wx hV hdep hval hj hsm hr
            have e68 : aa.tmps.getD 68 undef = .pointer (some (a.add (k * 5))) := hr 68 (by decide) (by apply Array.mem_toList_iff.1; repeat (first | exact List.Mem.head _ | apply List.Mem.tail))
            rw [Array.getD_eq_getD_getElem?] at e68
            unfold Oper.wp
            simp only [execOp, Act.eval, Array.getD_eq_getD_getElem?, e68]
            go_simp
            exact ⟨_, rfl, rfl, hj.plain (by decide)⟩
          | 6, ho =>
            cases ho
            intro V aa wx hV hdep hval hj hsm hr
            have e69 : aa.tmps.getD 69 undef = .pointer (some ⟨(a.add (k * 5)).block, (a.add (k * 5)).off + 4, none⟩) := hr 69 (by decide) (by apply Array.mem_toList_iff.1; repeat (first | exact List.Mem.head _ | apply List.Mem.tail))
            have d1 := HC4.out wx hj.bl
            rw [Array.getD_eq_getD_getElem?] at e69
            unfold Oper.wp
            simp only [execOp, Act.eval, Array.getD_eq_getD_getElem?, e69]
            go_simp
            exact ⟨_, rfl, rfl, hj.plain (by decide)⟩
          | 7, ho =>
            cases ho
            intro V aa wx hV hdep hval hj hsm hr
            have e64 : aa.tmps.getD 64 undef = .pointer (some ⟨T, 0, none⟩) := hr 64 (by decide) (by apply Array.mem_toList_iff.1; repeat (first | exact List.Mem.head _ | apply List.Mem.tail))
            have e65 : aa.tmps.getD 65 undef = .agg #[.int .i64 r, .int .i64 c, .slice pA vs.length pc] := hr 65 (by decide) (by apply Array.mem_toList_iff.1; repeat (first | exact List.Mem.head _ | apply List.Mem.tail))
            have e70 : aa.tmps.getD 70 undef = .bool off := hr 70 (by decide) (by apply Array.mem_toList_iff.1; repeat (first | exact List.Mem.head _ | apply List.Mem.tail))
            rw [Array.getD_eq_getD_getElem?] at e64
            rw [Array.getD_eq_getD_getElem?] at e65
            rw [Array.getD_eq_getD_getElem?] at e70
            unfold Oper.wp
            simp only [execOp, Act.eval, Array.getD_eq_getD_getElem?, e64, e65, e70]
            go_simp
            refine (PushA w9.heap.size b T _ ls r c pA pc vs off wx HBM.out hj.sz (hj.a0 hV) HTU.out.1 (hj.pv.crow (by have := HVS.out; omega)) (by have := HVS.out; omega) (by have := HL.out; have := HN.out; omega)).mono ?_
            rintro e w' ⟨rfl, hp, hb, hk, _⟩
            refine ⟨_, rfl, rfl, ⟨fun h => ?_, fun _ => hp, fun h => ?_, fun h => ?_, hj.bl.trans hb, Nat.le_trans hj.sz hk.1, KeepsBut.blk hk hj.bk (by decide), hj.pv.keeps hk (by decide)⟩⟩
            · rw [show setV V 7 _ 7 = some _ from if_pos rfl] at h
              cases h
            · rw [show setV V 7 _ 19 = V 19 from if_neg (by decide)] at h
              exact ⟨(hj.b0 h).1.keep hk (by decide) (by decide) (by decide) (by decide) (by decide), by rw [(hj.b0 h).1.row_keep hk (by decide)]; exact (hj.b0 h).2⟩
            · rw [show setV V 7 _ 19 = V 19 from if_neg (by decide)] at h
              exact (hj.b1 h).keep hk (by decide) (by decide) (by decide) (by decide) (by decide)
          | 8, ho =>
            cases ho
            intro V aa wx hV hdep hval hj hsm hr
            have e4 : aa.tmps.getD 4 undef = .pointer (some ⟨U, 0, none⟩) := hsm 4 (by decide)
            rw [Array.getD_eq_getD_getElem?] at e4
            unfold Oper.wp
            simp only [execOp, Act.eval, Array.getD_eq_getD_getElem?, e4]
            go_simp
            exact ⟨_, rfl, rfl, hj.plain (by decide)⟩
          | 9, ho =>
            cases ho
            intro V aa wx hV hdep hval hj hsm hr
            have e0 : aa.tmps.getD 0 undef = .slice (some a) n lc := hsm 0 (by decide)
            rw [Array.getD_eq_getD_getElem?] at e0
            unfold Oper.wp
            simp only [execOp, Act.eval, Array.getD_eq_getD_getElem?, e0]
            go_simp
            exact ⟨_, rfl, rfl, hj.plain (by decide)⟩
          | 10, ho =>
            cases ho
            intro V aa wx hV hdep hval hj hsm hr
            have e5 : aa.tmps.getD 5 undef = .int .i64 k := hsm 5 (by decide)
            rw [Array.getD_eq_getD_getElem?] at e5
            unfold Oper.wp
            simp only [execOp, Act.eval, Array.getD_eq_getD_getElem?, e5]
            go_simp
            exact ⟨_, rfl, rfl, hj.plain (by decide)⟩
          | 11, ho =>
            cases ho
            intro V aa wx hV hdep hval hj hsm hr
            have e73 : aa.tmps.getD 73 undef = .slice (some a) n lc := hr 73 (by decide) (by apply Array.mem_toList_iff.1; repeat (first | exact List.Mem.head _ | apply List.Mem.tail))
            have e74 : aa.tmps.getD 74 undef = .int .i64 k := hr 74 (by decide) (by apply Array.mem_toList_iff.1; repeat (first | exact List.Mem.head _ | apply List.Mem.tail))
            rw [Array.getD_eq_getD_getElem?] at e73
            rw [Array.getD_eq_getD_getElem?] at e74
            unfold Oper.wp
            simp only [execOp, Act.eval, Array.getD_eq_getD_getElem?, e73, e74]
            go_simp
            exact ⟨_, rfl, rfl, hj.plain (by decide)⟩
          | 12, ho =>
            cases ho
            intro V aa wx hV hdep hval hj hsm hr
            have e75 : aa.tmps.getD 75 undef = .pointer (some (a.add (k * 5))) := hr 75 (by decide) (by apply Array.mem_toList_iff.1; repeat (first | exact List.Mem.head _ | apply List.Mem.tail))
            rw [Array.getD_eq_getD_getElem?] at e75
            unfold Oper.wp
            simp only [execOp, Act.eval, Array.getD_eq_getD_getElem?, e75]
            go_simp
            exact ⟨_, rfl, rfl, hj.plain (by decide)⟩
          | 13, ho =>
            cases ho
            intro V aa wx hV hdep hval hj hsm hr
            have e76 : aa.tmps.getD 76 undef = .pointer (some ⟨(a.add (k * 5)).block, (a.add (k * 5)).off + 1, none⟩) := hr 76 (by decide) (by apply Array.mem_toList_iff.1; repeat (first | exact List.Mem.head _ | apply List.Mem.tail))
            have d1 := HC1.out wx hj.bl
            have d2 := HC2.out wx hj.bl
            have d3 := HC3.out wx hj.bl
            rw [Array.getD_eq_getD_getElem?] at e76
            unfold Oper.wp
            simp only [execOp, Act.eval, Array.getD_eq_getD_getElem?, e76]
            go_simp
            exact ⟨_, rfl, rfl, hj.plain (by decide)⟩
          | 14, ho =>
            cases ho
            intro V aa wx hV hdep hval hj hsm hr
            have e0 : aa.tmps.getD 0 undef = .slice (some a) n lc := hsm 0 (by decide)
            rw [Array.getD_eq_getD_getElem?] at e0
            unfold Oper.wp
            simp only [execOp, Act.eval, Array.getD_eq_getD_getElem?, e0]
            go_simp
            exact ⟨_, rfl, rfl, hj.plain (by decide)⟩
          | 15, ho =>
            cases ho
            intro V aa wx hV hdep hval hj hsm hr
            have e5 : aa.tmps.getD 5 undef = .int .i64 k := hsm 5 (by decide)
            rw [Array.getD_eq_getD_getElem?] at e5
            unfold Oper.wp
            simp only [execOp, Act.eval, Array.getD_eq_getD_getElem?, e5]
            go_simp
            exact ⟨_, rfl, rfl, hj.plain (by decide)⟩
          | 16, ho =>
            cases ho
            intro V aa wx hV hdep hval hj hsm hr
            have e78 : aa.tmps.getD 78 undef = .slice (some a) n lc := hr 78 (by decide) (by apply Array.mem_toList_iff.1; repeat (first | exact List.Mem.head _ | apply List.Mem.tail))
            have e79 : aa.tmps.getD 79 undef = .int .i64 k := hr 79 (by decide) (by apply Array.mem_toList_iff.1; repeat (first | exact List.Mem.head _ | apply List.Mem.tail))
            rw [Array.getD_eq_getD_getElem?] at e78
            rw [Array.getD_eq_getD_getElem?] at e79
            unfold Oper.wp
            simp only [execOp, Act.eval, Array.getD_eq_getD_getElem?, e78, e79]
            go_simp
            exact ⟨_, rfl, rfl, hj.plain (by decide)⟩
          | 17, ho =>
            cases ho
            intro V aa wx hV hdep hval hj hsm hr
            have e80 : aa.tmps.getD 80 undef = .pointer (some (a.add (k * 5))) := hr 80 (by decide) (by apply Array.mem_toList_iff.1; repeat (first | exact List.Mem.head _ | apply List.Mem.tail))
            rw [Array.getD_eq_getD_getElem?] at e80
            unfold Oper.wp
            simp only [execOp, Act.eval, Array.getD_eq_getD_getElem?, e80]
            go_simp
            exact ⟨_, rfl, rfl, hj.plain (by decide)⟩
          | 18, ho =>
            cases ho
            intro V aa wx hV hdep hval hj hsm hr
            have e81 : aa.tmps.getD 81 undef = .pointer (some ⟨(a.add (k * 5)).block, (a.add (k * 5)).off + 4, none⟩) := hr 81 (by decide) (by apply Array.mem_toList_iff.1; repeat (first | exact List.Mem.head _ | apply List.Mem.tail))
            have d1 := HC4.out wx hj.bl
            rw [Array.getD_eq_getD_getElem?] at e81
            unfold Oper.wp
            simp only [execOp, Act.eval, Array.getD_eq_getD_getElem?, e81]
            go_simp
            exact ⟨_, rfl, rfl, hj.plain (by decide)⟩
          | 19, ho =>
            cases ho
            intro V aa wx hV hdep hval hj hsm hr
            have e72 : aa.tmps.getD 72 undef = .pointer (some ⟨U, 0, none⟩) := hr 72 (by decide) (by apply Array.mem_toList_iff.1; repeat (first | exact List.Mem.head _ | apply List.Mem.tail))
            have e77 : aa.tmps.getD 77 undef = .agg #[.int .i64 r, .int .i64 c, .slice xA vs.length xcap] := hr 77 (by decide) (by apply Array.mem_toList_iff.1; repeat (first | exact List.Mem.head _ | apply List.Mem.tail))
            have e82 : aa.tmps.getD 82 undef = .bool off := hr 82 (by decide) (by apply Array.mem_toList_iff.1; repeat (first | exact List.Mem.head _ | apply List.Mem.tail))
            rw [Array.getD_eq_getD_getElem?] at e72
            rw [Array.getD_eq_getD_getElem?] at e77
            rw [Array.getD_eq_getD_getElem?] at e82
            unfold Oper.wp
            simp only [execOp, Act.eval, Array.getD_eq_getD_getElem?, e72, e77, e82]
            go_simp
            refine (PushB w9.heap.size b U _ ms r c xA xcap vs off wx HBM.out hj.sz (hj.b0 hV).1 HTU.out.2 (fun w' hb => HCR.out w' (hj.bl.trans hb)) (by have := HVS.out; omega) (by have := HL.out; have := HN.out; have := SI.out.len; omega)).mono ?_
            rintro e w' ⟨rfl, hp, hb, hk⟩
            have hk4 := hk.keeps
            refine ⟨_, rfl, rfl, ⟨fun h => ?_, fun h => ?_, fun h => ?_, fun _ => hp, hj.bl.trans hb, Nat.le_trans hj.sz hk4.1, (hk.2 P _ _ (0, 0) hj.bk (by decide) fun _ => (hj.b0 hV).2).trans hj.bk, hj.pv.keeps hk4 (by decide)⟩⟩
            · rw [show setV V 19 _ 7 = V 7 from if_neg (by decide)] at h
              exact (hj.a0 h).keep hk4 (by decide) (by decide) (by decide)
            · rw [show setV V 19 _ 7 = V 7 from if_neg (by decide)] at h
              exact (hj.a1 h).keep hk4 (by decide) (by decide) (by decide)
            · rw [show setV V 19 _ 19 = some _ from if_pos rfl] at h
              cases h
          | 20, ho =>
            cases ho
            intro V aa wx hV hdep hval hj hsm hr
            have e71 : aa.tmps.getD 71 undef = .int .i64 (bif b then 0 else 2) := hr 71 (by decide) (by apply Array.mem_toList_iff.1; repeat (first | exact List.Mem.head _ | apply List.Mem.tail))
            have e83 : aa.tmps.getD 83 undef = .int .i64 (bif b then 0 else 2) := hr 83 (by decide) (by apply Array.mem_toList_iff.1; repeat (first | exact List.Mem.head _ | apply List.Mem.tail))
            rw [Array.getD_eq_getD_getElem?] at e71
            rw [Array.getD_eq_getD_getElem?] at e83
            unfold Oper.wp
            simp only [execOp, Act.eval, Array.getD_eq_getD_getElem?, e71, e83]
            go_simp
            exact ⟨_, rfl, rfl, hj.plain (by decide)⟩
          | i + 21, ho => cases ho
        case fin17 =>
          intro ff V wi hVs hj hr
          have h7 : (V 7).isSome = true := by rw [hVs 7 _ rfl]; rfl
          have h19 : (V 19).isSome = true := by rw [hVs 19 _ rfl]; rfl
          have e84 : ff 84 = .bool false := hr 84 (by decide)
          obtain ⟨ls2, ms2, TL⟩ : ∃ ls2 ms2, Hid (Tl w1 T U w1.heap.size P k ls2 ms2 r c vs.length pA pc wi) := by
            have h1 := hj.a1 h7
            have h2 := hj.b1 h19
            cases b with
            | false => exact ⟨ls, ms, hide ⟨h1, h2, SI.out, FT.out, by have := HL.out; omega, HTU.out, hj.bl, hj.bk, px_of hj.pv hwr.out fun g hg _ _ => AW.out g hg⟩⟩
            | true =>
              obtain ⟨g1, cap1, hg1, h1⟩ := h1
              obtain ⟨g2, cap2, hg2, h2⟩ := h2
              refine ⟨_, _, hide ⟨h1, h2, SI.out.app _ _ _ _ _ _ _ _ _, fun x hx => ?_, by have := HL.out; simp; omega, HTU.out, hj.bl, hj.bk, px_of hj.pv hwr.out fun g hg _ e => ?_⟩⟩
              · rcases List.mem_append.1 hx with hx | hx
                · exact FT.out x hx
                · rw [List.mem_singleton.1 hx]
                  exact ⟨(of_decide_eq_true HBM.out).1, HVS.out, by show 0 + 1 ≤ vs.length + _; have := (of_decide_eq_true HBM.out).1; omega⟩
              · have hgl : 0 < vs.length → g < w9.heap.size := fun hp => by
                  obtain ⟨g', e1, _, hv⟩ := PV9.out hp
                  rw [e] at e1
                  injection e1 with e1
                  injection e1 with e1
                  subst e1
                  exact hv.lt rfl
                have hp : 0 < vs.length := (of_decide_eq_true HBM.out).1
                have hgl := hgl hp
                exact ⟨(AW.out g hg).1.app fun e => by injection e with e; injection e with e; omega, (AW.out g hg).2.app fun e => by injection e with e; injection e with e; omega⟩
          clear hVs hj hr h7 h19
          simp only [putAll, slotsOf, List.take, List.drop, List.filterMap_cons, List.filterMap_nil, List.foldl_cons, List.foldl_nil, Act.put, e84]
          simp only [List.setIfInBounds_toArray, List.set_cons_succ, List.set_cons_zero]
          have HML : Hid (ls2.length ≤ 2000) := hide (by have := TL.out.l; have := HN.out; omega)
          go_wp2_with fail
          go_loopw [8] (fun vj ws => ∃ (j : Nat), j ≤ vs.length ∧ vj = .int .i64 j ∧ Hid (Tl w1 T U w1.heap.size P k ls2 ms2 r c vs.length pA pc ws)) (fun vj _ => vs.length - (intOf vj).toNat)
          case atStart => exact ⟨0, by omega, rfl, TL⟩
          case round =>
            clear TL
            obtain ⟨j, hj, rfl, TL⟩ := hrel
            have v1 : wr.cell? ⟨P, 2, none⟩ = some (.slice pA vs.length pc) := TL.out.bk.cell 2
            by_cases hjl : j < vs.length
            · obtain ⟨g, cs, rfl, hg, h1, h2, hb, hs⟩ := TL.out.px (by omega)
              have hjI : (j : Int) < (vs.length : Int) := by omega
              obtain ⟨ov, hov⟩ : ∃ v, cs[j * 5 + 3]? = some v := ⟨_, Array.getElem?_eq_getElem (by omega)⟩
              have cj : wr.cell? ⟨g, j * 5 + 3, none⟩ = some ov := (hb.cell (j * 5 + 3)).trans hov
              have fj := hb.frozen (j * 5 + 3)
              have T3 := hide (TL.out.far (j := j * 5 + 3) hg h1 h2 hb hs (.int .i64 (-7)))
              have h64 := HVS.out
              clear hg h1 h2 hb hs hov TL
              go_wp2_with fail
              go_roundw
              case rel => exact ⟨j + 1, by omega, by go_num, T3⟩
              case measure => simp [intOf]; omega
            · have hjI : ¬ (j : Int) < (vs.length : Int) := by omega
              obtain ⟨wz, hwz⟩ : ∃ x, x = wr := ⟨_, rfl⟩
              rw [← hwz] at TL v1 ⊢
              clear hwz hjl
              have hlm : ls2.length = ms2.length := TL.out.s.len
              have hlf : leftS ls2 = leftS ms2 := TL.out.s.left
              have hms : ∀ x ∈ ms2, x.fit := TL.out.s.fit TL.out.f
              obtain ⟨Aq, cq, _, _, _, _, hbU, _⟩ := TL.out.b.open_
              have hne : Nonempty (BelowOf wz) := ⟨⟨_, Below.refl _ _⟩⟩
              have u0 : ∀ p : BelowOf wz, p.world.cell? ⟨U, 0, none⟩ = some (.slice Aq ls2.length cq) := fun p => p.cell hbU.lt (by rw [hlm]; exact hbU.cell 0)
              have DA := hide (fun (p : BelowOf wz) => depth_a T _ ls2 p.world (TL.out.a.below p.below))
              have LA := hide (fun (p : BelowOf wz) => Left_a T _ ls2 p.world (TL.out.a.below p.below) TL.out.f)
              have LB := hide (fun (p : BelowOf wz) => Left_b U _ ms2 p.world (TL.out.b.below p.below) hms)
              rw [← hlf] at LB
              have SA := hide (fun (w' : World) (hb : Below wz.heap.size wz w') => Steps_a T _ ls2 w' (TL.out.a.below hb) TL.out.f)
              have SB := hide (fun (w' : World) (hb : Below wz.heap.size wz w') => Steps_b U _ ms2 w' (TL.out.b.below hb) hms)
              rw [← TL.out.s.steps, ← hlm] at SB
              have hll : leftS ls2 ≤ 2000000 := by
                have h1 := leftS_le ls2 TL.out.f
                have h2 := HML.out
                omega
              have HLS : Hid (ls2.length = (stepsOf ls2).length) := hide (by unfold stepsOf; simp)
              have hmlI := HML.out
              obtain ⟨lz, hlz⟩ : ∃ x, leftS ls2 = x := ⟨_, rfl⟩
              rw [hlz] at LA LB hll
              obtain ⟨nz, hnz⟩ : ∃ x, ls2.length = x := ⟨_, rfl⟩
              rw [hnz] at u0 DA SA SB hmlI HLS
              have HNZ := hide hnz
              clear hlm hlf hms hbU hlz hnz
              go_wp2_with fail
              refine wp_region_quiet_below (by kernel_rfl) (by kernel_rfl) ?_
              repeat (go_big_quiet_step (first
                | (go_at_call 13; exact calls_below_same (DA.out _))
                | (go_at_call 14; exact calls_below (LA.out _))
                | (go_at_call 15; exact calls_below (LB.out _))))
              refine wpQuiet_nil ?_
              rintro Wq ⟨⟨_, hq⟩, rfl⟩
              have SAq := hide (SA.out Wq hq)
              have HQ := hide hq
              clear hq u0 hne v1
              go_wp2_with fail
              refine SAq.out.mono ?_
              rintro e wa ⟨va, rfl, hoa, hba⟩
              have hqa := HQ.out.trans (hba.mono HQ.out.size)
              have SBa := hide (SB.out wa hqa)
              have HOA := hide hoa
              have HQA := hide hqa
              have HSA := hide hba.size
              clear hoa hba hqa
              go_wp2_with fail
              refine SBa.out.mono ?_
              rintro e wb ⟨vb, rfl, hob, hbb⟩
              have hqb := HQA.out.trans (hbb.mono HQA.out.size)
              have hoa := own_belowR HOA.out hbb
              have SM1 : Hid (Calls Try.prog 17 #[va, vb] wb fun e w' => e = .returned (.bool true) ∧ Below wb.heap.size wb w') := hide (Same_b _ _ va vb (stepsOf ls2) wb (by rw [← HLS.out]; exact hoa) (by rw [← HLS.out]; exact hob) (by rw [← HLS.out]; exact hmlI))
              have HOA := hide hoa
              have HQB := hide hqb
              clear hoa hob hbb hqb
              go_wp2_with fail
              refine SM1.out.mono ?_
              rintro e wc ⟨rfl, hbc⟩
              have hqc := HQB.out.trans (hbc.mono HQB.out.size)
              have hoc := own_belowR HOA.out hbc
              have A9 := hide (TL.out.a.below hqc)
              have B9' := hide (TL.out.b.below hqc)
              have HB9' := hide (TL.out.bl.trans (hqc.mono TL.out.bl.size))
              have S9 := hide TL.out.s
              have F9 := hide TL.out.f
              have L9 := hide TL.out.l
              have TU9 := hide TL.out.tu
              have HSQ := hide (show w1.heap.size ≤ Wq.heap.size from Nat.le_trans TL.out.bl.size HQ.out.size)
              obtain ⟨aa, ca, rfl⟩ := own_form hoc
              have HOC : Hid (∃ xs, wc.ownsRow Wq.heap.size 49 8 (.slice aa nz ca) nz xs) := hide ⟨_, hoc⟩
              clear hbc hqc hoc TL DA LA LB SA SB
              go_wp2_with fail
              go_loopw [10] (fun vj ws => ∃ (j : Nat), j ≤ nz ∧ vj = .int .i64 j ∧ Hid (StA ws T w1.heap.size ls2) ∧ Hid (StB ws U w1.heap.size ms2) ∧ Hid (Below w1.heap.size w1 ws) ∧ Hid (∃ xs, ws.ownsRow Wq.heap.size 49 8 (.slice aa nz ca) nz xs)) (fun vj _ => nz - (intOf vj).toNat)
              case atStart => exact ⟨0, by omega, rfl, A9, B9', HB9', HOC⟩
              case round =>
                clear A9 B9' HB9' HOC
                obtain ⟨j, hj, rfl, A9, B9', HB9', HOC⟩ := hrel
                by_cases hjl : j < nz
                · obtain ⟨xs, ho⟩ := HOC.out
                  have hlen := ho.1
                  obtain ⟨g, rfl, hge, _, ⟨cs, hb⟩, hfr, _, hcc⟩ := own_cell ho (by omega)
                  have hjI : (j : Int) < (nz : Int) := by omega
                  obtain ⟨ov, hov⟩ : ∃ v, xs[j * 8 + 1]? = some v := ⟨_, List.getElem?_eq_getElem (by omega)⟩
                  have cj : wr.cell? ⟨g, j * 8 + 1, none⟩ = some ov := hcc _ _ hov
                  have fj := hfr (j * 8 + 1)
                  have kk := keeps_set (p := ⟨g, j * 8 + 1, none⟩) hb (.int .i64 (-7))
                  have A10 := hide (A9.out.keep kk (by decide) (by decide) (by decide))
                  have B10 := hide (B9'.out.keep kk (by decide) (by decide) (by decide) (by decide) (by decide))
                  have HB10 := hide (HB9'.out.setCell (p := ⟨g, j * 8 + 1, none⟩) (Nat.le_trans HSQ.out hge) (.int .i64 (-7)))
                  have HO10 : Hid (∃ xs, (wr.setCell ⟨g, j * 8 + 1, none⟩ (.int .i64 (-7))).ownsRow Wq.heap.size 49 8 (.slice (some ⟨g, 0, none⟩) nz ca) nz xs) := hide ⟨_, own_set ho _⟩
                  clear ho hge hb hfr hcc kk hlen hov
                  go_wp2_with fail
                  go_roundw
                  case rel => exact ⟨j + 1, by omega, by go_num, A10, B10, HB10, HO10⟩
                  case measure => simp [intOf]; omega
                · have hjI : ¬ (j : Int) < (nz : Int) := by omega
                  have hn200 := HN.out
                  go_wp2_with fail
                  go_roundw
                  case rel => exact ⟨k + 1, T, U, ls2, ms2, by omega, by go_num, rfl, rfl, A9, B9', S9, F9, L9, TU9, HB9'⟩
                  case measure => simp [intOf]; omega
      · have NA := hide (Next_a T _ ls w9 P1.out HTU.out.1 FT.out)
        have FM := hide (SI.out.fit FT.out)
        have AWG := hide (fun g (hg : wr.heap.size ≤ g) => And.intro (AW.out g hg).1.next (AW.out g hg).2.next)
        go_wp2_with fail
        refine NA.out.mono ?_
        rintro e wa ⟨rfl, hsa, hba, hoa, _⟩
        have hka := P1.out.keeps hoa
        have Pa := hide hsa
        have Pb := hide (P2.out.keep hka (by decide) (by decide) (by decide) (by decide) (by decide))
        have Bx := hide (KeepsBut.blk hka B9.out (by decide))
        have PVa := hide (PV9.out.keeps hka (by decide))
        have HBa := hide (HB9.out.trans hba)
        have NB := hide (Next_b U _ ms wa Pb.out HTU.out.2 FM.out)
        rw [← SI.out.next.len] at NB
        clear hsa hba hoa hka c0
        obtain ⟨bz, hbz⟩ : ∃ x, decide (0 < (nextL ls).length) = x := ⟨_, rfl⟩
        rw [hbz] at NB ⊢
        clear hbz
        go_wp2_with fail
        refine NB.out.mono ?_
        rintro e wi ⟨rfl, hsb, hbb, hkb⟩
        have TL : Hid (Tl w1 T U w1.heap.size P k (nextL ls) (nextL ms) r c vs.length pA pc wi) := hide ⟨Pa.out.keep hkb (by decide) (by decide) (by decide), hsb, SI.out.next, nextL_fit FT.out, by have := nextL_len ls; have := HL.out; omega, HTU.out, HBa.out.trans hbb, KeepsBut.blk hkb Bx.out (by decide), px_of (PVa.out.keeps hkb (by decide)) hwr.out fun g hg _ _ => AWG.out g hg⟩
        clear hsb hbb hkb Pa Pb Bx PVa HBa
        obtain ⟨ls2, hls2⟩ : ∃ x, nextL ls = x := ⟨_, rfl⟩
        obtain ⟨ms2, hms2⟩ : ∃ x, nextL ms = x := ⟨_, rfl⟩
        rw [hls2, hms2] at TL
        clear hls2 hms2
        have HML : Hid (ls2.length ≤ 2000) := hide (by have := TL.out.l; have := HN.out; omega)
        go_wp2_with fail
        go_loopw [8] (fun vj ws => ∃ (j : Nat), j ≤ vs.length ∧ vj = .int .i64 j ∧ Hid (Tl w1 T U w1.heap.size P k ls2 ms2 r c vs.length pA pc ws)) (fun vj _ => vs.length - (intOf vj).toNat)
        case atStart => exact ⟨0, by omega, rfl, TL⟩
        case round =>
          clear TL
          obtain ⟨j, hj, rfl, TL⟩ := hrel
          have v1 : wr.cell? ⟨P, 2, none⟩ = some (.slice pA vs.length pc) := TL.out.bk.cell 2
          by_cases hjl : j < vs.length
          · obtain ⟨g, cs, rfl, hg, h1, h2, hb, hs⟩ := TL.out.px (by omega)
            have hjI : (j : Int) < (vs.length : Int) := by omega
            obtain ⟨ov, hov⟩ : ∃ v, cs[j * 5 + 3]? = some v := ⟨_, Array.getElem?_eq_getElem (by omega)⟩
            have cj : wr.cell? ⟨g, j * 5 + 3, none⟩ = some ov := (hb.cell (j * 5 + 3)).trans hov
            have fj := hb.frozen (j * 5 + 3)
            have T3 := hide (TL.out.far (j := j * 5 + 3) hg h1 h2 hb hs (.int .i64 (-7)))
            have h64 := HVS.out
            clear hg h1 h2 hb hs hov TL
            go_wp2_with fail
            go_roundw
            case rel => exact ⟨j + 1, by omega, by go_num, T3⟩
            case measure => simp [intOf]; omega
          · have hjI : ¬ (j : Int) < (vs.length : Int) := by omega
            obtain ⟨wz, hwz⟩ : ∃ x, x = wr := ⟨_, rfl⟩
            rw [← hwz] at TL v1 ⊢
            clear hwz hjl
            have hlm : ls2.length = ms2.length := TL.out.s.len
            have hlf : leftS ls2 = leftS ms2 := TL.out.s.left
            have hms : ∀ x ∈ ms2, x.fit := TL.out.s.fit TL.out.f
            obtain ⟨Aq, cq, _, _, _, _, hbU, _⟩ := TL.out.b.open_
            have hne : Nonempty (BelowOf wz) := ⟨⟨_, Below.refl _ _⟩⟩
            have u0 : ∀ p : BelowOf wz, p.world.cell? ⟨U, 0, none⟩ = some (.slice Aq ls2.length cq) := fun p => p.cell hbU.lt (by rw [hlm]; exact hbU.cell 0)
            have DA := hide (fun (p : BelowOf wz) => depth_a T _ ls2 p.world (TL.out.a.below p.below))
            have LA := hide (fun (p : BelowOf wz) => Left_a T _ ls2 p.world (TL.out.a.below p.below) TL.out.f)
            have LB := hide (fun (p : BelowOf wz) => Left_b U _ ms2 p.world (TL.out.b.below p.below) hms)
            rw [← hlf] at LB
            have SA := hide (fun (w' : World) (hb : Below wz.heap.size wz w') => Steps_a T _ ls2 w' (TL.out.a.below hb) TL.out.f)
            have SB := hide (fun (w' : World) (hb : Below wz.heap.size wz w') => Steps_b U _ ms2 w' (TL.out.b.below hb) hms)
            rw [← TL.out.s.steps, ← hlm] at SB
            have hll : leftS ls2 ≤ 2000000 := by
              have h1 := leftS_le ls2 TL.out.f
              have h2 := HML.out
              omega
            have HLS : Hid (ls2.length = (stepsOf ls2).length) := hide (by unfold stepsOf; simp)
            have hmlI := HML.out
            obtain ⟨lz, hlz⟩ : ∃ x, leftS ls2 = x := ⟨_, rfl⟩
            rw [hlz] at LA LB hll
            obtain ⟨nz, hnz⟩ : ∃ x, ls2.length = x := ⟨_, rfl⟩
            rw [hnz] at u0 DA SA SB hmlI HLS
            have HNZ := hide hnz
            clear hlm hlf hms hbU hlz hnz
            go_wp2_with fail
            refine wp_region_quiet_below (by kernel_rfl) (by kernel_rfl) ?_
            repeat (go_big_quiet_step (first
              | (go_at_call 13; exact calls_below_same (DA.out _))
              | (go_at_call 14; exact calls_below (LA.out _))
              | (go_at_call 15; exact calls_below (LB.out _))))
            refine wpQuiet_nil ?_
            rintro Wq ⟨⟨_, hq⟩, rfl⟩
            have SAq := hide (SA.out Wq hq)
            have HQ := hide hq
            clear hq u0 hne v1
            go_wp2_with fail
            refine SAq.out.mono ?_
            rintro e wa ⟨va, rfl, hoa, hba⟩
            have hqa := HQ.out.trans (hba.mono HQ.out.size)
            have SBa := hide (SB.out wa hqa)
            have HOA := hide hoa
            have HQA := hide hqa
            have HSA := hide hba.size
            clear hoa hba hqa
            go_wp2_with fail
            refine SBa.out.mono ?_
            rintro e wb ⟨vb, rfl, hob, hbb⟩
            have hqb := HQA.out.trans (hbb.mono HQA.out.size)
            have hoa := own_belowR HOA.out hbb
            have SM1 : Hid (Calls Try.prog 17 #[va, vb] wb fun e w' => e = .returned (.bool true) ∧ Below wb.heap.size wb w') := hide (Same_b _ _ va vb (stepsOf ls2) wb (by rw [← HLS.out]; exact hoa) (by rw [← HLS.out]; exact hob) (by rw [← HLS.out]; exact hmlI))
            have HOA := hide hoa
            have HQB := hide hqb
            clear hoa hob hbb hqb
            go_wp2_with fail
            refine SM1.out.mono ?_
            rintro e wc ⟨rfl, hbc⟩
            have hqc := HQB.out.trans (hbc.mono HQB.out.size)
            have hoc := own_belowR HOA.out hbc
            have A9 := hide (TL.out.a.below hqc)
            have B9' := hide (TL.out.b.below hqc)
            have HB9' := hide (TL.out.bl.trans (hqc.mono TL.out.bl.size))
            have S9 := hide TL.out.s
            have F9 := hide TL.out.f
            have L9 := hide TL.out.l
            have TU9 := hide TL.out.tu
            have HSQ := hide (show w1.heap.size ≤ Wq.heap.size from Nat.le_trans TL.out.bl.size HQ.out.size)
            obtain ⟨aa, ca, rfl⟩ := own_form hoc
            have HOC : Hid (∃ xs, wc.ownsRow Wq.heap.size 49 8 (.slice aa nz ca) nz xs) := hide ⟨_, hoc⟩
            clear hbc hqc hoc TL DA LA LB SA SB
            go_wp2_with fail
            go_loopw [10] (fun vj ws => ∃ (j : Nat), j ≤ nz ∧ vj = .int .i64 j ∧ Hid (StA ws T w1.heap.size ls2) ∧ Hid (StB ws U w1.heap.size ms2) ∧ Hid (Below w1.heap.size w1 ws) ∧ Hid (∃ xs, ws.ownsRow Wq.heap.size 49 8 (.slice aa nz ca) nz xs)) (fun vj _ => nz - (intOf vj).toNat)
            case atStart => exact ⟨0, by omega, rfl, A9, B9', HB9', HOC⟩
            case round =>
              clear A9 B9' HB9' HOC
              obtain ⟨j, hj, rfl, A9, B9', HB9', HOC⟩ := hrel
              by_cases hjl : j < nz
              · obtain ⟨xs, ho⟩ := HOC.out
                have hlen := ho.1
                obtain ⟨g, rfl, hge, _, ⟨cs, hb⟩, hfr, _, hcc⟩ := own_cell ho (by omega)
                have hjI : (j : Int) < (nz : Int) := by omega
                obtain ⟨ov, hov⟩ : ∃ v, xs[j * 8 + 1]? = some v := ⟨_, List.getElem?_eq_getElem (by omega)⟩
                have cj : wr.cell? ⟨g, j * 8 + 1, none⟩ = some ov := hcc _ _ hov
                have fj := hfr (j * 8 + 1)
                have kk := keeps_set (p := ⟨g, j * 8 + 1, none⟩) hb (.int .i64 (-7))
                have A10 := hide (A9.out.keep kk (by decide) (by decide) (by decide))
                have B10 := hide (B9'.out.keep kk (by decide) (by decide) (by decide) (by decide) (by decide))
                have HB10 := hide (HB9'.out.setCell (p := ⟨g, j * 8 + 1, none⟩) (Nat.le_trans HSQ.out hge) (.int .i64 (-7)))
                have HO10 : Hid (∃ xs, (wr.setCell ⟨g, j * 8 + 1, none⟩ (.int .i64 (-7))).ownsRow Wq.heap.size 49 8 (.slice (some ⟨g, 0, none⟩) nz ca) nz xs) := hide ⟨_, own_set ho _⟩
                clear ho hge hb hfr hcc kk hlen hov
                go_wp2_with fail
                go_roundw
                case rel => exact ⟨j + 1, by omega, by go_num, A10, B10, HB10, HO10⟩
                case measure => simp [intOf]; omega
              · have hjI : ¬ (j : Int) < (nz : Int) := by omega
                have hn200 := HN.out
                go_wp2_with fail
                go_roundw
                case rel => exact ⟨k + 1, T, U, ls2, ms2, by omega, by go_num, rfl, rfl, A9, B9', S9, F9, L9, TU9, HB9'⟩
                case measure => simp [intOf]; omega
      · have CA := hide (Copy_a T _ ls w9 P1.out)
        have SZ9 := hide HB9.out.size
        have OLD := hide P1.out.below_size
        go_wp2_with fail
        refine CA.out.mono ?_
        rintro e wa ⟨T', rfl, hT', hsa, hba⟩
        have Pa := hide hsa
        have Po := hide (P1.out.below hba)
        have Pb := hide (P2.out.below hba)
        have HO1 := hide (show ∀ j ∈ stB wa T, j < w9.heap.size by rw [stB_below P1.out hba]; exact OLD.out)
        have HBa := hide hba
        have HTa := hide hT'
        have CB := hide (Copy_b U _ ms wa Pb.out)
        clear hsa hba c0 hT'
        go_wp2_with fail
        refine CB.out.mono ?_
        rintro e wb ⟨U', rfl, hU', hsb, hbb⟩
        have Pa2 := hide (Pa.out.below hbb)
        have Po2 := hide (Po.out.below hbb)
        have HO2 := hide (show ∀ j ∈ stB wb T, j < w9.heap.size by rw [stB_below Po.out hbb]; exact HO1.out)
        have hbn := HBa.out.trans (hbb.mono HBa.out.size)
        have Pb2 := hide hsb
        have Bx := hide (B9.out.below hbn B9.out.lt)
        have PVb := hide (PV9.out.keeps (KeepsBut.of_below (tys := []) hbn) (by decide))
        have HBb := hide hbn
        have HUb := hide (Nat.le_trans HBa.out.size hU')
        have NA := hide (Next_a T _ ls wb Po2.out HTU.out.1 FT.out)
        clear hsb hbb hbn hU'
        go_wp2_with fail
        refine NA.out.mono ?_
        rintro e wd ⟨rfl, hsd, hbd, hod, hsub⟩
        have hkd := Po2.out.keeps hod
        have Pa3 := hide (Pa2.out.up HTa.out hod HO2.out hkd)
        have Pb3 := hide (Pb2.out.keep hkd (by decide) (by decide) (by decide) (by decide) (by decide))
        have Bx3 := hide (KeepsBut.blk hkd Bx.out (by decide))
        have PV3 := hide (PVb.out.keeps hkd (by decide))
        have HB3 := hide ((HB9.out.trans (HBb.out.mono SZ9.out)).trans hbd)
        have HO3 := hide (fun j (hj : j ∈ stB wd T) => HO2.out j (hsub j hj))
        have q0 : wd.cell? ⟨P, 0, none⟩ = some (.int .i64 r) := Bx3.out.cell 0
        have q1 : wd.cell? ⟨P, 1, none⟩ = some (.int .i64 c) := Bx3.out.cell 1
        have q2 : wd.cell? ⟨P, 2, none⟩ = some (.slice pA vs.length pc) := Bx3.out.cell 2
        have PU := hide (PushA 0 _ T _ (nextL ls) r c pA pc vs true wd rfl (Nat.zero_le _) hsd HTU.out.1 (PV3.out.crow (by have := HVS.out; omega)) (by have := HVS.out; omega) (by have := nextL_len ls; have := HL.out; have := HN.out; omega))
        clear hsd hbd hod hsub hkd
        go_wp2_with fail
        refine PU.out.mono ?_
        rintro e wi ⟨rfl, _, hbi, hki, hoi⟩
        have TL : Hid (Tl w1 T' U' w1.heap.size P k ls ms r c vs.length pA pc wi) := hide ⟨(Pa3.out.up HTa.out hoi HO3.out hki).more SZ9.out, ((Pb3.out.more (show w1.heap.size ≤ wa.heap.size from Nat.le_trans SZ9.out HBa.out.size)).keep hki (by decide) (by decide) (by decide) (by decide) (by decide)), SI.out, FT.out, by have := HL.out; omega, ⟨Nat.le_trans SZ9.out HTa.out, Nat.le_trans SZ9.out HUb.out⟩, HB3.out.trans hbi, KeepsBut.blk hki Bx3.out (by decide), px_of (PV3.out.keeps hki (by decide)) hwr.out fun g hg _ _ => AW.out g hg⟩
        clear hbi hki hoi q0 q1 q2
        obtain ⟨ls2, hls2⟩ : ∃ x, ls = x := ⟨_, rfl⟩
        obtain ⟨ms2, hms2⟩ : ∃ x, ms = x := ⟨_, rfl⟩
        rw [hls2, hms2] at TL
        have HML : Hid (ls2.length ≤ 2000) := hide (by have := TL.out.l; have := HN.out; omega)
        go_wp2_with fail
        go_loopw [8] (fun vj ws => ∃ (j : Nat), j ≤ vs.length ∧ vj = .int .i64 j ∧ Hid (Tl w1 T' U' w1.heap.size P k ls2 ms2 r c vs.length pA pc ws)) (fun vj _ => vs.length - (intOf vj).toNat)
        case atStart => exact ⟨0, by omega, rfl, TL⟩
        case round =>
          clear TL
          obtain ⟨j, hj, rfl, TL⟩ := hrel
          have v1 : wr.cell? ⟨P, 2, none⟩ = some (.slice pA vs.length pc) := TL.out.bk.cell 2
          by_cases hjl : j < vs.length
          · obtain ⟨g, cs, rfl, hg, h1, h2, hb, hs⟩ := TL.out.px (by omega)
            have hjI : (j : Int) < (vs.length : Int) := by omega
            obtain ⟨ov, hov⟩ : ∃ v, cs[j * 5 + 3]? = some v := ⟨_, Array.getElem?_eq_getElem (by omega)⟩
            have cj : wr.cell? ⟨g, j * 5 + 3, none⟩ = some ov := (hb.cell (j * 5 + 3)).trans hov
            have fj := hb.frozen (j * 5 + 3)
            have T3 := hide (TL.out.far (j := j * 5 + 3) hg h1 h2 hb hs (.int .i64 (-7)))
            have h64 := HVS.out
            clear hg h1 h2 hb hs hov TL
            go_wp2_with fail
            go_roundw
            case rel => exact ⟨j + 1, by omega, by go_num, T3⟩
            case measure => simp [intOf]; omega
          · have hjI : ¬ (j : Int) < (vs.length : Int) := by omega
            obtain ⟨wz, hwz⟩ : ∃ x, x = wr := ⟨_, rfl⟩
            rw [← hwz] at TL v1 ⊢
            clear hwz hjl
            have hlm : ls2.length = ms2.length := TL.out.s.len
            have hlf : leftS ls2 = leftS ms2 := TL.out.s.left
            have hms : ∀ x ∈ ms2, x.fit := TL.out.s.fit TL.out.f
            obtain ⟨Aq, cq, _, _, _, _, hbU, _⟩ := TL.out.b.open_
            have hne : Nonempty (BelowOf wz) := ⟨⟨_, Below.refl _ _⟩⟩
            have u0 : ∀ p : BelowOf wz, p.world.cell? ⟨U', 0, none⟩ = some (.slice Aq ls2.length cq) := fun p => p.cell hbU.lt (by rw [hlm]; exact hbU.cell 0)
            have DA := hide (fun (p : BelowOf wz) => depth_a T' _ ls2 p.world (TL.out.a.below p.below))
            have LA := hide (fun (p : BelowOf wz) => Left_a T' _ ls2 p.world (TL.out.a.below p.below) TL.out.f)
            have LB := hide (fun (p : BelowOf wz) => Left_b U' _ ms2 p.world (TL.out.b.below p.below) hms)
            rw [← hlf] at LB
            have SA := hide (fun (w' : World) (hb : Below wz.heap.size wz w') => Steps_a T' _ ls2 w' (TL.out.a.below hb) TL.out.f)
            have SB := hide (fun (w' : World) (hb : Below wz.heap.size wz w') => Steps_b U' _ ms2 w' (TL.out.b.below hb) hms)
            rw [← TL.out.s.steps, ← hlm] at SB
            have hll : leftS ls2 ≤ 2000000 := by
              have h1 := leftS_le ls2 TL.out.f
              have h2 := HML.out
              omega
            have HLS : Hid (ls2.length = (stepsOf ls2).length) := hide (by unfold stepsOf; simp)
            have hmlI := HML.out
            obtain ⟨lz, hlz⟩ : ∃ x, leftS ls2 = x := ⟨_, rfl⟩
            rw [hlz] at LA LB hll
            obtain ⟨nz, hnz⟩ : ∃ x, ls2.length = x := ⟨_, rfl⟩
            rw [hnz] at u0 DA SA SB hmlI HLS
            have HNZ := hide hnz
            clear hlm hlf hms hbU hlz hnz
            go_wp2_with fail
            refine wp_region_quiet_below (by kernel_rfl) (by kernel_rfl) ?_
            repeat (go_big_quiet_step (first
              | (go_at_call 13; exact calls_below_same (DA.out _))
              | (go_at_call 14; exact calls_below (LA.out _))
              | (go_at_call 15; exact calls_below (LB.out _))))
            refine wpQuiet_nil ?_
            rintro Wq ⟨⟨_, hq⟩, rfl⟩
            have SAq := hide (SA.out Wq hq)
            have HQ := hide hq
            clear hq u0 hne v1
            go_wp2_with fail
            refine SAq.out.mono ?_
            rintro e wa ⟨va, rfl, hoa, hba⟩
            have hqa := HQ.out.trans (hba.mono HQ.out.size)
            have SBa := hide (SB.out wa hqa)
            have HOA := hide hoa
            have HQA := hide hqa
            have HSA := hide hba.size
            clear hoa hba hqa
            go_wp2_with fail
            refine SBa.out.mono ?_
            rintro e wb ⟨vb, rfl, hob, hbb⟩
            have hqb := HQA.out.trans (hbb.mono HQA.out.size)
            have hoa := own_belowR HOA.out hbb
            have SM1 : Hid (Calls Try.prog 17 #[va, vb] wb fun e w' => e = .returned (.bool true) ∧ Below wb.heap.size wb w') := hide (Same_b _ _ va vb (stepsOf ls2) wb (by rw [← HLS.out]; exact hoa) (by rw [← HLS.out]; exact hob) (by rw [← HLS.out]; exact hmlI))
            have HOA := hide hoa
            have HQB := hide hqb
            clear hoa hob hbb hqb
            go_wp2_with fail
            refine SM1.out.mono ?_
            rintro e wc ⟨rfl, hbc⟩
            have hqc := HQB.out.trans (hbc.mono HQB.out.size)
            have hoc := own_belowR HOA.out hbc
            have A9 := hide (TL.out.a.below hqc)
            have B9' := hide (TL.out.b.below hqc)
            have HB9' := hide (TL.out.bl.trans (hqc.mono TL.out.bl.size))
            have S9 := hide TL.out.s
            have F9 := hide TL.out.f
            have L9 := hide TL.out.l
            have TU9 := hide TL.out.tu
            have HSQ := hide (show w1.heap.size ≤ Wq.heap.size from Nat.le_trans TL.out.bl.size HQ.out.size)
            obtain ⟨aa, ca, rfl⟩ := own_form hoc
            have HOC : Hid (∃ xs, wc.ownsRow Wq.heap.size 49 8 (.slice aa nz ca) nz xs) := hide ⟨_, hoc⟩
            clear hbc hqc hoc TL DA LA LB SA SB
            go_wp2_with fail
            go_loopw [10] (fun vj ws => ∃ (j : Nat), j ≤ nz ∧ vj = .int .i64 j ∧ Hid (StA ws T' w1.heap.size ls2) ∧ Hid (StB ws U' w1.heap.size ms2) ∧ Hid (Below w1.heap.size w1 ws) ∧ Hid (∃ xs, ws.ownsRow Wq.heap.size 49 8 (.slice aa nz ca) nz xs)) (fun vj _ => nz - (intOf vj).toNat)
            case atStart => exact ⟨0, by omega, rfl, A9, B9', HB9', HOC⟩
            case round =>
              clear A9 B9' HB9' HOC
              obtain ⟨j, hj, rfl, A9, B9', HB9', HOC⟩ := hrel
              by_cases hjl : j < nz
              · obtain ⟨xs, ho⟩ := HOC.out
                have hlen := ho.1
                obtain ⟨g, rfl, hge, _, ⟨cs, hb⟩, hfr, _, hcc⟩ := own_cell ho (by omega)
                have hjI : (j : Int) < (nz : Int) := by omega
                obtain ⟨ov, hov⟩ : ∃ v, xs[j * 8 + 1]? = some v := ⟨_, List.getElem?_eq_getElem (by omega)⟩
                have cj : wr.cell? ⟨g, j * 8 + 1, none⟩ = some ov := hcc _ _ hov
                have fj := hfr (j * 8 + 1)
                have kk := keeps_set (p := ⟨g, j * 8 + 1, none⟩) hb (.int .i64 (-7))
                have A10 := hide (A9.out.keep kk (by decide) (by decide) (by decide))
                have B10 := hide (B9'.out.keep kk (by decide) (by decide) (by decide) (by decide) (by decide))
                have HB10 := hide (HB9'.out.setCell (p := ⟨g, j * 8 + 1, none⟩) (Nat.le_trans HSQ.out hge) (.int .i64 (-7)))
                have HO10 : Hid (∃ xs, (wr.setCell ⟨g, j * 8 + 1, none⟩ (.int .i64 (-7))).ownsRow Wq.heap.size 49 8 (.slice (some ⟨g, 0, none⟩) nz ca) nz xs) := hide ⟨_, own_set ho _⟩
                clear ho hge hb hfr hcc kk hlen hov
                go_wp2_with fail
                go_roundw
                case rel => exact ⟨j + 1, by omega, by go_num, A10, B10, HB10, HO10⟩
                case measure => simp [intOf]; omega
              · have hjI : ¬ (j : Int) < (nz : Int) := by omega
                have hn200 := HN.out
                go_wp2_with fail
                go_roundw
                case rel => exact ⟨k + 1, T', U', ls2, ms2, by omega, by go_num, rfl, rfl, A9, B9', S9, F9, L9, TU9, HB9'⟩
                case measure => simp [intOf]; omega
end Go.Proofs.Ytobccgjonpcpgaa.PathPlaysW
