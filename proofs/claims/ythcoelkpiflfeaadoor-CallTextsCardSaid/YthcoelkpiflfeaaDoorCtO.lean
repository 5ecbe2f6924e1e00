/- The chapter's examples hold. -/
import Derived.Test.YthcoelkpiflfeaaDoorRows
import Derived.Test.YthcoelkpiflfeaaDoorCtH
import Derived.Test.YthcoelkpiflfeaaDoorToldV
import Derived.Test.YthcoelkpiflfeaaDoorCalG
namespace Go.Proofs.YthcoelkpiflfeaaDoor
open Go Go.RowKit Go.Lib Go.Proofs.YthcoelkpiflfeaaDoor.Grp
set_option linter.unusedVariables false
set_option linter.unusedSimpArgs false
namespace Cal
theorem ito (u : Nat) (h : u < 10) : itoa (u : Int) = [UInt8.ofNat (48 + u)] := by
  rw [Go.Lib.itoa_nonneg, Go.Lib.decDigits_one h]
theorem itn (u : Nat) (h0 : 0 < u) (h : u < 10) : itoa (-(u : Int)) = [45, UInt8.ofNat (48 + u)] := by
  rw [Go.Lib.itoa_neg u h0, Go.Lib.decDigits_one h]
theorem it0 : itoa 0 = [48] := ito 0 (by decide)
theorem it1 : itoa 1 = [49] := ito 1 (by decide)
theorem it2 : itoa 2 = [50] := ito 2 (by decide)
theorem it3 : itoa 3 = [51] := ito 3 (by decide)
theorem it5 : itoa 5 = [53] := ito 5 (by decide)
theorem it7 : itoa 7 = [55] := ito 7 (by decide)
theorem im1 : itoa (-1) = [45, 49] := itn 1 (by decide) (by decide)
theorem im4 : itoa (-4) = [45, 52] := itn 4 (by decide) (by decide)
theorem fitD {z : Int} (h : decide (-9223372036854775808 ≤ z ∧ z ≤ 9223372036854775807) = true) : Told.Fit z := by unfold Told.Fit; exact of_decide_eq_true h
theorem c1_ok : (⟨8, 0, 0, 0, 0, 0, 0, 0, [5], 0, 0⟩ : Cl).ok := ⟨by decide, by decide, fitD (by decide), fitD (by decide), fitD (by decide), fitD (by decide), fitD (by decide), fitD (by decide), fitD (by decide), fitD (by decide), by intro z hz; rw [List.mem_singleton.1 hz]; exact fitD (by decide)⟩
theorem c2_ok : (⟨17, 0, 0, 0, -4, 0, 1, 1, [], 0, 0⟩ : Cl).ok := ⟨by decide, by decide, fitD (by decide), fitD (by decide), fitD (by decide), fitD (by decide), fitD (by decide), fitD (by decide), fitD (by decide), fitD (by decide), by intro z hz; cases hz⟩
theorem c3_ok : (⟨6, 0, -1, 3, 0, 0, 0, 0, [], 0, 0⟩ : Cl).ok := ⟨by decide, by decide, fitD (by decide), fitD (by decide), fitD (by decide), fitD (by decide), fitD (by decide), fitD (by decide), fitD (by decide), fitD (by decide), by intro z hz; cases hz⟩
theorem c1_has : hasText (⟨8, 0, 0, 0, 0, 0, 0, 0, [5], 0, 0⟩ : Cl) := ⟨by decide, by decide, by decide, fun _ => ⟨by decide, by decide⟩⟩
theorem c2_has : hasText (⟨17, 0, 0, 0, -4, 0, 1, 1, [], 0, 0⟩ : Cl) := ⟨by decide, by decide, by decide, fun h => absurd h (by decide)⟩
theorem c3_has : hasText (⟨6, 0, -1, 3, 0, 0, 0, 0, [], 0, 0⟩ : Cl) := ⟨by decide, by decide, by decide, fun h => absurd h (by decide)⟩
theorem c1_text : textOf (⟨8, 0, 0, 0, 0, 0, 0, 0, [5], 0, 0⟩ : Cl) = [119, 97, 105, 116, 40, 53, 41] := by
  have e : argT (⟨8, 0, 0, 0, 0, 0, 0, 0, [5], 0, 0⟩ : Cl) = itoa 5 := by simp [argT, hasF, usedL, jnC, tlC]
  unfold textOf
  rw [e, it5]
  rfl
theorem c2_text : textOf (⟨17, 0, 0, 0, -4, 0, 1, 1, [], 0, 0⟩ : Cl) = [114, 101, 100, 117, 99, 101, 40, 48, 44, 32, 49, 44, 32, 45, 52, 44, 32, 109, 97, 120, 41] := by
  have e : argT (⟨17, 0, 0, 0, -4, 0, 1, 1, [], 0, 0⟩ : Cl) = ((itoa 0 ++ 44 :: 32 :: (itoa 1 ++ 44 :: 32 :: (itoa (-4)))) ++ 44 :: 32 :: [109, 97, 120]) := by simp [argT, hasF, usedL, numsOf, numF, lastT, redL, jnC, tlC]
  unfold textOf
  rw [e, it0, it1, im4]
  rfl
theorem c3_text : textOf (⟨6, 0, -1, 3, 0, 0, 0, 0, [], 0, 0⟩ : Cl) = [114, 101, 99, 118, 40, 48, 44, 32, 45, 49, 44, 32, 51, 41] := by
  have e : argT (⟨6, 0, -1, 3, 0, 0, 0, 0, [], 0, 0⟩ : Cl) = (itoa 0 ++ 44 :: 32 :: (itoa (-1) ++ 44 :: 32 :: (itoa 3))) := by simp [argT, hasF, usedL, numsOf, numF, lastT, redL, jnC, tlC]
  unfold textOf
  rw [e, it0, it3, im1]
  rfl
theorem told_env {w : World} (h : Env w) : Told.Env w := ⟨h.pow, h.mx, by obtain ⟨m, e⟩ := h.mx; exact block_lt_of_cell e⟩
theorem told1 : Told.tT (Told.cls 6) ⟨false, 7, 1, 0, 0, 0, 0, []⟩ = [118, 97, 108, 117, 101, 32, 55, 32, 112, 101, 101, 114, 32, 49, 32, 116, 97, 103, 32, 48] := by
  show Told.gotT _ = _
  unfold Told.gotT Told.vT
  rw [it0, it1, it7]
  rfl
theorem told2 : Told.tT (Told.cls 19) ⟨false, 0, 0, 0, 0, 0, 0, [1, 2]⟩ = [114, 111, 119, 32, 49, 32, 50] := by
  show rowT [1, 2] = _
  unfold rowT tlS tlS tlS
  rw [it1, it2]
  rfl
theorem told3 : Told.tT (Told.cls 19) ⟨false, 0, 0, 0, 0, 0, 0, []⟩ = [114, 111, 119] := rfl
theorem told_fit : ∀ z ∈ [(0 : Int), 1, 2, 7], Told.Fit z := by
  intro z hz
  simp only [List.mem_cons, List.not_mem_nil, or_false] at hz
  rcases hz with rfl | rfl | rfl | rfl <;> exact fitD (by decide)
/-- What Told's contract says (it stands in a text of its own). -/
def ToldSaid : Prop := ∀ (k : Int) (x : Told.Rs) (A : Option Addr) (cap : Nat) (w : World), x.ok → Told.NRow w A x.row → x.row.length ≤ 1000 → Told.Env w →
    Calls Tryd.prog 40 #[.int .u8 k, .agg #[.bool x.fl, .int .i64 x.v, .int .i64 x.p, .int .i64 x.t, .int .i64 x.q, .int .i64 x.i, .int .i64 x.c, .slice A x.row.length cap]] w fun e w' => e = .returned (.string (bytes (Told.tT (Told.cls k) x))) ∧ Below w.heap.size w w'
theorem text_yes {c : Cl} {e : Ending} {s : List UInt8} (h : TextIs c e) (hh : hasText c) (hs : textOf c = s) : e = .returned (.tuple #[.string (bytes s), .int .i64 0]) := by
  rcases h with ⟨_, rfl⟩ | ⟨hn, _⟩
  · rw [hs]
  · exact absurd hh hn
theorem parse_yes {s : List UInt8} {c : Cl} {w w' : World} {e : Ending} (h : ParseIs s w e w') (hc : ParsedAs s (some c)) : ∃ (rb : Option Addr) (rd : Nat), e = .returned (.tuple #[.agg (c.A rb rd), .int .i64 0]) ∧ w'.ownsRow w.heap.size 3 1 (.slice rb c.rq.length rd) c.rq.length (i64s c.rq) ∧ Below w.heap.size w w' := by
  obtain ⟨h1, h2⟩ := h
  rcases h1 with ⟨hn, _⟩ | ⟨c', rb, rd, hp, _, _, he, ho⟩
  · cases hn.det hc
  · have := hp.det hc
    injection this with this
    subst this
    exact ⟨rb, rd, he, ho, h2⟩
set_option maxRecDepth 100000 in
set_option maxHeartbeats 16000000 in
theorem awake_c (TA : ToldSaid) (w : World) (h : Env w) : Calls Tryd.prog 12 #[] w fun e w' => e = .returned (.bool true) ∧ Below w.heap.size w w' := by
  have HEB := hide (fun (w' : World) (hb : Below w.heap.size w w') => h.below hb (Nat.le_refl _))
  clear h
  have ba1 := (Below.refl w.heap.size w).alloc (Nat.le_refl _) (.cells #[.int .i64 5] 3)
  have kr1 := Blk.new w 3 #[.int .i64 5]
  go_enter Tryd.func12, Tryd.ntmps12
  obtain ⟨w1, hw1⟩ : ∃ z, w.alloc (.cells #[.int .i64 5] 3) = z := ⟨_, rfl⟩
  rw [hw1] at ba1 kr1
  have nr1 : NRow w1 (some ⟨w.heap.size, 0, none⟩) [5] := fun _ => ⟨_, rfl, kr1.lt, fun i hi => by
    obtain rfl : i = 0 := by simpa using hi
    exact kr1.cell 0⟩
  have TR := hide (Trim_a (⟨8, 3, 0, 0, 0, 0, 0, 0, [5], 0, 0⟩ : Cl) (some ⟨w.heap.size, 0, none⟩) 1 w1 nr1 (by decide) (by decide))
  have HB1 := hide (And.intro ba1 ba1.size)
  clear ba1 kr1 nr1
  go_wp2_with fail
  refine TR.out.mono ?_
  rintro e w2 ⟨r1, d1, rfl, hown, hb2⟩
  have HOW := hide (own_row (l := [5]) hown rfl)
  have HB2 := hide (And.intro (HB1.out.1.trans (hb2.mono HB1.out.2)) (Nat.le_trans HB1.out.2 hb2.size))
  clear hown hb2 HB1 TR hw1
  rw [show (trimC (⟨8, 3, 0, 0, 0, 0, 0, 0, [5], 0, 0⟩ : Cl)).A r1 d1 = #[.int .u8 8, .int .i64 0, .int .i64 0, .int .i64 0, .int .i64 0, .int .i64 0, .int .i64 0, .int .u8 0, .slice r1 1 d1, .int .i64 0, .int .i64 0] from rfl]
  have ba := (Below.refl w2.heap.size w2).alloc (Nat.le_refl _) (.cells #[.int .u8 8, .int .i64 0, .int .i64 0, .int .i64 0, .int .i64 0, .int .i64 0, .int .i64 0, .int .u8 0, .slice r1 1 d1, .int .i64 0, .int .i64 0] 24)
  have kT := Blk.new w2 24 #[.int .u8 8, .int .i64 0, .int .i64 0, .int .i64 0, .int .i64 0, .int .i64 0, .int .i64 0, .int .u8 0, .slice r1 1 d1, .int .i64 0, .int .i64 0]
  obtain ⟨w3, hw3⟩ : ∃ z, w2.alloc (.cells #[.int .u8 8, .int .i64 0, .int .i64 0, .int .i64 0, .int .i64 0, .int .i64 0, .int .i64 0, .int .u8 0, .slice r1 1 d1, .int .i64 0, .int .i64 0] 24) = z := ⟨_, rfl⟩
  obtain ⟨T, hT⟩ : ∃ T, w2.heap.size = T := ⟨_, rfl⟩
  rw [hw3] at ba kT
  have R3 := hide (HOW.out.below ba)
  have HB3 := hide (And.intro (HB2.out.1.trans (ba.mono HB2.out.2)) (Nat.le_trans HB2.out.2 ba.size))
  rw [hT] at kT
  have KT := hide kT
  have HW3 := hide hw3
  have HT := hide hT
  have TX1 := hide (Text_c (⟨8, 0, 0, 0, 0, 0, 0, 0, [5], 0, 0⟩ : Cl) r1 d1 w3 R3.out (by decide) c1_ok (HEB.out _ HB3.out.1).pow (HEB.out _ HB3.out.1).red)
  have q0 : w3.cell? ⟨T, 0, none⟩ = some (.int .u8 8) := kT.cell 0
  have q1 : w3.cell? ⟨T, 1, none⟩ = some (.int .i64 0) := kT.cell 1
  have q2 : w3.cell? ⟨T, 2, none⟩ = some (.int .i64 0) := kT.cell 2
  have q3 : w3.cell? ⟨T, 3, none⟩ = some (.int .i64 0) := kT.cell 3
  have q4 : w3.cell? ⟨T, 4, none⟩ = some (.int .i64 0) := kT.cell 4
  have q5 : w3.cell? ⟨T, 5, none⟩ = some (.int .i64 0) := kT.cell 5
  have q6 : w3.cell? ⟨T, 6, none⟩ = some (.int .i64 0) := kT.cell 6
  have q7 : w3.cell? ⟨T, 7, none⟩ = some (.int .u8 0) := kT.cell 7
  have q8 : w3.cell? ⟨T, 8, none⟩ = some (.slice r1 1 d1) := kT.cell 8
  have q9 : w3.cell? ⟨T, 9, none⟩ = some (.int .i64 0) := kT.cell 9
  have q10 : w3.cell? ⟨T, 10, none⟩ = some (.int .i64 0) := kT.cell 10
  clear ba kT hw3 hT HOW HB2
  go_upto_region 2 with (fail)
  rw [HW3.out, HT.out]
  go_wp2_with fail
  refine TX1.out.mono ?_
  rintro e w4 ⟨he, hb4⟩
  obtain rfl := text_yes he c1_has c1_text
  have HB4 := hide (And.intro (HB3.out.1.trans (hb4.mono HB3.out.2)) (Nat.le_trans HB3.out.2 hb4.size))
  have KT4 := hide (KT.out.below hb4 KT.out.lt)
  have R4 := hide (R3.out.below hb4)
  have TX2 := hide (Text_c (⟨17, 0, 0, 0, -4, 0, 1, 1, [], 0, 0⟩ : Cl) none 0 w4 (fun h => absurd h (by decide)) (by decide) c2_ok (HEB.out _ HB4.out.1).pow (HEB.out _ HB4.out.1).red)
  clear he hb4 HB3 KT R3 TX1 q0 q1 q2 q3 q4 q5 q6 q7 q8 q9 q10
  rw [show bytes [119, 97, 105, 116, 40, 53, 41] = (⟨#[119, 97, 105, 116, 40, 53, 41]⟩ : ByteArray) from rfl]
  go_wp2_with fail
  refine TX2.out.mono ?_
  rintro e w5 ⟨he, hb5⟩
  obtain rfl := text_yes he c2_has c2_text
  have HB5 := hide (And.intro (HB4.out.1.trans (hb5.mono HB4.out.2)) (Nat.le_trans HB4.out.2 hb5.size))
  have KT5 := hide (KT4.out.below hb5 KT4.out.lt)
  have R5 := hide (R4.out.below hb5)
  have PA := hide (Parse_c [114, 101, 99, 118, 40, 48, 44, 32, 45, 49, 44, 32, 51, 41] w5 (HEB.out _ HB5.out.1) (by decide))
  clear he hb5 HB4 KT4 R4 TX2
  rw [show bytes [114, 101, 100, 117, 99, 101, 40, 48, 44, 32, 49, 44, 32, 45, 52, 44, 32, 109, 97, 120, 41] = (⟨#[114, 101, 100, 117, 99, 101, 40, 48, 44, 32, 49, 44, 32, 45, 52, 44, 32, 109, 97, 120, 41]⟩ : ByteArray) from rfl]
  rw [show bytes [114, 101, 99, 118, 40, 48, 44, 32, 45, 49, 44, 32, 51, 41] = (⟨#[114, 101, 99, 118, 40, 48, 44, 32, 45, 49, 44, 32, 51, 41]⟩ : ByteArray) from rfl] at PA
  go_wp2_with fail
  refine PA.out.mono ?_
  rintro e w6 hp
  obtain ⟨r3, d3, rfl, hown, hb6⟩ := parse_yes hp (parsed_yes c3_ok c3_has c3_text)
  rw [show ((⟨6, 0, -1, 3, 0, 0, 0, 0, [], 0, 0⟩ : Cl)).A r3 d3 = #[.int .u8 6, .int .i64 0, .int .i64 (-1), .int .i64 3, .int .i64 0, .int .i64 0, .int .i64 0, .int .u8 0, .slice r3 0 d3, .int .i64 0, .int .i64 0] from rfl]
  have HB6 := hide (And.intro (HB5.out.1.trans (hb6.mono HB5.out.2)) (Nat.le_trans HB5.out.2 hb6.size))
  have KT6 := hide (KT5.out.below hb6 KT5.out.lt)
  have R6 := hide (R5.out.below hb6)
  clear hp hown hb6 HB5 KT5 R5 PA
  have ba := (Below.refl w6.heap.size w6).alloc (Nat.le_refl _) (.cells #[.int .u8 6, .int .i64 0, .int .i64 (-1), .int .i64 3, .int .i64 0, .int .i64 0, .int .i64 0, .int .u8 0, .slice r3 0 d3, .int .i64 0, .int .i64 0] 24)
  have kC := Blk.new w6 24 #[.int .u8 6, .int .i64 0, .int .i64 (-1), .int .i64 3, .int .i64 0, .int .i64 0, .int .i64 0, .int .u8 0, .slice r3 0 d3, .int .i64 0, .int .i64 0]
  obtain ⟨w7, hw7⟩ : ∃ z, w6.alloc (.cells #[.int .u8 6, .int .i64 0, .int .i64 (-1), .int .i64 3, .int .i64 0, .int .i64 0, .int .i64 0, .int .u8 0, .slice r3 0 d3, .int .i64 0, .int .i64 0] 24) = z := ⟨_, rfl⟩
  obtain ⟨X, hX⟩ : ∃ X, w6.heap.size = X := ⟨_, rfl⟩
  rw [hw7] at ba kC
  rw [hX] at kC
  have HW7 := hide hw7
  have HX := hide hX
  have HB7 := hide (And.intro (HB6.out.1.trans (ba.mono HB6.out.2)) (Nat.le_trans HB6.out.2 ba.size))
  have KT7 := hide (KT6.out.below ba KT6.out.lt)
  have R7 := hide (R6.out.below ba)
  have KC7 := hide kC
  clear ba kC hw7 hX HB6 KT6 R6
  go_upto_region 5 with (fail)
  rw [HW7.out, HX.out]
  have ba := (Below.refl w7.heap.size w7).alloc (Nat.le_refl _) (.cells #[.int .i64 5] 3)
  have k8 := Blk.new w7 3 #[.int .i64 5]
  obtain ⟨w8, hw8⟩ : ∃ z, w7.alloc (.cells #[.int .i64 5] 3) = z := ⟨_, rfl⟩
  rw [hw8] at ba k8
  have n8 : NRow w8 (some ⟨w7.heap.size, 0, none⟩) [5] := fun _ => ⟨_, rfl, k8.lt, fun i hi => by
    obtain rfl : i = 0 := by simpa using hi
    exact k8.cell 0⟩
  have HB8 := hide (And.intro (HB7.out.1.trans (ba.mono HB7.out.2)) (Nat.le_trans HB7.out.2 ba.size))
  have KT8 := hide (KT7.out.below ba KT7.out.lt)
  have KC8 := hide (KC7.out.below ba KC7.out.lt)
  have SB := hide (Same_b (⟨8, 0, 0, 0, 0, 0, 0, 0, [5], 0, 0⟩ : Cl) (⟨8, 0, 0, 0, 0, 0, 0, 0, [5], 0, 0⟩ : Cl) r1 (some ⟨w7.heap.size, 0, none⟩) d1 1 w8 (R7.out.below ba) n8 (by decide) (by decide))
  rw [decide_eq_true (rfl : (⟨8, 0, 0, 0, 0, 0, 0, 0, [5], 0, 0⟩ : Cl) = (⟨8, 0, 0, 0, 0, 0, 0, 0, [5], 0, 0⟩ : Cl))] at SB
  have q0 : w7.cell? ⟨T, 0, none⟩ = some (.int .u8 8) := KT7.out.cell 0
  have q1 : w7.cell? ⟨T, 1, none⟩ = some (.int .i64 0) := KT7.out.cell 1
  have q2 : w7.cell? ⟨T, 2, none⟩ = some (.int .i64 0) := KT7.out.cell 2
  have q3 : w7.cell? ⟨T, 3, none⟩ = some (.int .i64 0) := KT7.out.cell 3
  have q4 : w7.cell? ⟨T, 4, none⟩ = some (.int .i64 0) := KT7.out.cell 4
  have q5 : w7.cell? ⟨T, 5, none⟩ = some (.int .i64 0) := KT7.out.cell 5
  have q6 : w7.cell? ⟨T, 6, none⟩ = some (.int .i64 0) := KT7.out.cell 6
  have q7 : w7.cell? ⟨T, 7, none⟩ = some (.int .u8 0) := KT7.out.cell 7
  have q8 : w7.cell? ⟨T, 8, none⟩ = some (.slice r1 1 d1) := KT7.out.cell 8
  have q9 : w7.cell? ⟨T, 9, none⟩ = some (.int .i64 0) := KT7.out.cell 9
  have q10 : w7.cell? ⟨T, 10, none⟩ = some (.int .i64 0) := KT7.out.cell 10
  clear ba k8 n8 HB7 R7
  go_wp2_with fail
  refine SB.out.mono ?_
  rintro e w9 ⟨rfl, hb9⟩
  have HB9 := hide (And.intro (HB8.out.1.trans (hb9.mono HB8.out.2)) (Nat.le_trans HB8.out.2 hb9.size))
  have KC9 := hide (KC8.out.below hb9 KC8.out.lt)
  have SC := hide (Same_b (⟨6, 0, -1, 3, 0, 0, 0, 0, [], 0, 0⟩ : Cl) (⟨6, 0, -1, 3, 0, 0, 0, 0, [], 0, 0⟩ : Cl) r3 none d3 0 w9 (fun h => absurd h (by decide)) (fun h => absurd h (by decide)) (by decide) (by decide))
  rw [decide_eq_true (rfl : (⟨6, 0, -1, 3, 0, 0, 0, 0, [], 0, 0⟩ : Cl) = (⟨6, 0, -1, 3, 0, 0, 0, 0, [], 0, 0⟩ : Cl))] at SC
  have p0 : w9.cell? ⟨X, 0, none⟩ = some (.int .u8 6) := KC9.out.cell 0
  have p1 : w9.cell? ⟨X, 1, none⟩ = some (.int .i64 0) := KC9.out.cell 1
  have p2 : w9.cell? ⟨X, 2, none⟩ = some (.int .i64 (-1)) := KC9.out.cell 2
  have p3 : w9.cell? ⟨X, 3, none⟩ = some (.int .i64 3) := KC9.out.cell 3
  have p4 : w9.cell? ⟨X, 4, none⟩ = some (.int .i64 0) := KC9.out.cell 4
  have p5 : w9.cell? ⟨X, 5, none⟩ = some (.int .i64 0) := KC9.out.cell 5
  have p6 : w9.cell? ⟨X, 6, none⟩ = some (.int .i64 0) := KC9.out.cell 6
  have p7 : w9.cell? ⟨X, 7, none⟩ = some (.int .u8 0) := KC9.out.cell 7
  have p8 : w9.cell? ⟨X, 8, none⟩ = some (.slice r3 0 d3) := KC9.out.cell 8
  have p9 : w9.cell? ⟨X, 9, none⟩ = some (.int .i64 0) := KC9.out.cell 9
  have p10 : w9.cell? ⟨X, 10, none⟩ = some (.int .i64 0) := KC9.out.cell 10
  clear hb9 SB HB8 KT7 KT8 KC8 q0 q1 q2 q3 q4 q5 q6 q7 q8 q9 q10
  go_wp2_with fail
  refine SC.out.mono ?_
  rintro e w10 ⟨rfl, hb10⟩
  have HB10 := hide (And.intro (HB9.out.1.trans (hb10.mono HB9.out.2)) (Nat.le_trans HB9.out.2 hb10.size))
  have f0 := told_fit 0 (by decide)
  have f1 := told_fit 1 (by decide)
  have f7 := told_fit 7 (by decide)
  have T1 := hide (TA 6 ⟨false, 7, 1, 0, 0, 0, 0, []⟩ none 0 w10 ⟨f7, f1, f0, f0, f0, f0, fun z hz => by cases hz⟩ (fun h => absurd h (by decide)) (by decide) (told_env (HEB.out _ HB10.out.1)))
  rw [told1, show bytes [118, 97, 108, 117, 101, 32, 55, 32, 112, 101, 101, 114, 32, 49, 32, 116, 97, 103, 32, 48] = (⟨#[118, 97, 108, 117, 101, 32, 55, 32, 112, 101, 101, 114, 32, 49, 32, 116, 97, 103, 32, 48]⟩ : ByteArray) from rfl] at T1
  clear hb10 SC HB9 KC9 f0 f1 f7 p0 p1 p2 p3 p4 p5 p6 p7 p8 p9 p10
  go_wp2_with fail
  refine T1.out.mono ?_
  rintro e w11 ⟨rfl, hb11⟩
  have HB11 := hide (And.intro (HB10.out.1.trans (hb11.mono HB10.out.2)) (Nat.le_trans HB10.out.2 hb11.size))
  have ba := (Below.refl w11.heap.size w11).alloc (Nat.le_refl _) (.cells #[.int .i64 1, .int .i64 2] 2)
  have k12 := Blk.new w11 2 #[.int .i64 1, .int .i64 2]
  obtain ⟨w12, hw12⟩ : ∃ z, w11.alloc (.cells #[.int .i64 1, .int .i64 2] 2) = z := ⟨_, rfl⟩
  rw [hw12] at ba k12
  have n12 : Told.NRow w12 (some ⟨w11.heap.size, 0, none⟩) [1, 2] := fun _ => ⟨_, rfl, k12.lt, fun i hi => by
    have hi : i < 2 := hi
    have : i = 0 ∨ i = 1 := by omega
    rcases this with rfl | rfl
    · exact k12.cell 0
    · exact k12.cell 1⟩
  have HB12 := hide (And.intro (HB11.out.1.trans (ba.mono HB11.out.2)) (Nat.le_trans HB11.out.2 ba.size))
  have f0 := told_fit 0 (by decide)
  have T2 := hide (TA 19 ⟨false, 0, 0, 0, 0, 0, 0, [1, 2]⟩ (some ⟨w11.heap.size, 0, none⟩) 2 w12 ⟨f0, f0, f0, f0, f0, f0, fun z hz => told_fit z (by
    simp only [List.mem_cons, List.not_mem_nil, or_false] at hz ⊢
    rcases hz with rfl | rfl <;> simp)⟩ n12 (by decide) (told_env (HEB.out _ HB12.out.1)))
  rw [told2, show bytes [114, 111, 119, 32, 49, 32, 50] = (⟨#[114, 111, 119, 32, 49, 32, 50]⟩ : ByteArray) from rfl] at T2
  clear hb11 T1 HB10 ba k12 n12 HB11
  go_wp2_with fail
  refine T2.out.mono ?_
  rintro e w13 ⟨rfl, hb13⟩
  have HB13 := hide (And.intro (HB12.out.1.trans (hb13.mono HB12.out.2)) (Nat.le_trans HB12.out.2 hb13.size))
  have T3 := hide (TA 19 ⟨false, 0, 0, 0, 0, 0, 0, []⟩ none 0 w13 ⟨f0, f0, f0, f0, f0, f0, fun z hz => by cases hz⟩ (fun h => absurd h (by decide)) (by decide) (told_env (HEB.out _ HB13.out.1)))
  rw [told3, show bytes [114, 111, 119] = (⟨#[114, 111, 119]⟩ : ByteArray) from rfl] at T3
  clear hb13 T2 HB12 f0 hw12
  go_wp2_with fail
  refine T3.out.mono ?_
  rintro e w14 ⟨rfl, hb14⟩
  have HB14 := hide (HB13.out.1.trans (hb14.mono HB13.out.2))
  clear hb14
  go_wp2_with fail
  go_ret
  exact ⟨rfl, HB14.out⟩
end Cal
end Go.Proofs.YthcoelkpiflfeaaDoor
