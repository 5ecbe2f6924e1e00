/- The text of one step. -/
import Derived.Test.YtiojpokfcejhcaaDoorRows
import Derived.Test.YtiojpokfcejhcaaDoorNumP
import Derived.Test.YtiojpokfcejhcaaDoorNumI
import Derived.Test.YtiojpokfcejhcaaDoorSignP
namespace Go.Proofs.YtiojpokfcejhcaaDoor
open Go.RowKit
open Go.Lib (itoa itoa_length_le)
set_option linter.unusedVariables false
set_option linter.unusedSimpArgs false
def dot (zs : List Int) : List UInt8 := zs.flatMap fun z => 46 :: itoa z
theorem dot_snoc (zs : List Int) (z : Int) : dot (zs ++ [z]) = dot zs ++ (46 :: itoa z) := by simp [dot]
theorem dot_take {zs : List Int} {i : Nat} (h : i < zs.length) : bytes (dot (zs.take i)) ++ (bytes [46] ++ bytes (itoa zs[i])) = bytes (dot (zs.take (i + 1))) := by
  rw [bytes_app, bytes_app, List.take_add_one, List.getElem?_eq_getElem h]
  show _ = bytes (dot (zs.take i ++ [zs[i]]))
  rw [dot_snoc]
  rfl
theorem itoa_len (n : Int) (h : Fit64 n) : (itoa n).length ≤ 21 := itoa_length_le n h.1 h.2
theorem dot_len : ∀ (zs : List Int), (∀ z ∈ zs, Fit64 z) → (dot zs).length ≤ zs.length * 22
  | [], _ => Nat.le_refl _
  | z :: zs, h => by
    have h1 := dot_len zs fun y hy => h y (List.mem_cons_of_mem _ hy)
    have h2 := itoa_len z (h z List.mem_cons_self)
    have e : (z :: zs).length * 22 = zs.length * 22 + 22 := by simp [Nat.add_mul]
    rw [e]
    simp only [dot, List.flatMap_cons, List.length_append, List.length_cons] at h1 ⊢
    omega
set_option maxRecDepth 100000 in
set_option maxHeartbeats 1000000 in
theorem dotted_a (g : Nat) (zs : List Int) (w : World) (hg : g < w.heap.size) (hz : ∀ z ∈ zs, Fit64 z) (hl : zs.length ≤ 100) (hc : ∀ j (h : j < zs.length), w.cell? ⟨g, j, none⟩ = some (.int .i64 zs[j])) (hp : Pow w) :
    Calls Tryd.prog 30 #[.slice (some ⟨g, 0, none⟩) zs.length zs.length] w fun e w' => e = .returned (.string (bytes (dot zs))) ∧ Below w.heap.size w w' := by
  have HC := hide hc
  have HP := hide hp
  have HZ := hide hz
  clear hc hp hz
  go_enter Tryd.func30, Tryd.ntmps30
  go_wp2_with fail
  go_loopw [3, 8] (fun vs vi wr => ∃ (i : Nat) (S : ByteArray), i ≤ zs.length ∧ vi = .int .i64 i ∧ vs = .string S ∧ Hid (S = bytes (dot (zs.take i))) ∧ Hid (Below w.heap.size w wr)) (fun _ vi _ => zs.length - (intOf vi).toNat)
  case atStart => exact ⟨0, ⟨#[]⟩, Nat.zero_le _, rfl, rfl, hide rfl, hide (Below.refl _ _)⟩
  case round =>
    obtain ⟨i, S, hi, rfl, rfl, HS, HB⟩ := hrel
    by_cases hlt : i < zs.length
    · have c0 := (HB.out.cell (p := ⟨g, i, none⟩) hg).trans (HC.out i hlt)
      have hltI : (i : Int) < (zs.length : Int) := by omega
      obtain ⟨b0, b1⟩ := HZ.out _ (List.getElem_mem hlt)
      have s1 : S.size ≤ 2200 := by
        rw [HS.out, bytes_size]
        have := dot_len (zs.take i) fun z hz => HZ.out z (List.mem_of_mem_take hz)
        rw [List.length_take] at this
        omega
      have s2 : (bytes (itoa zs[i])).size ≤ 21 := by rw [bytes_size]; exact itoa_len _ ⟨b0, b1⟩
      have HS2 : Hid (S ++ (bytes [46] ++ bytes (itoa zs[i])) = bytes (dot (zs.take (i + 1)))) := hide (by rw [HS.out]; exact dot_take hlt)
      have IA := hide (fun w' => itoa_a zs[i] w' b0 b1)
      generalize bytes (itoa zs[i]) = S2 at *
      generalize zs[i] = z at *
      have l1 : ¬ 9223372036854775807 < 1 + S2.size := by omega
      have l2 : ¬ 9223372036854775807 < S.size + (1 + S2.size) := by omega
      clear b0 b1
      go_wp2_with fail
      refine (IA.out _ (HP.out.below HB.out (Nat.le_refl _))).mono ?_
      rintro e w1 ⟨rfl, hb1⟩
      have HB1 := hide (HB.out.trans (hb1.mono HB.out.size))
      clear hb1
      go_wp2_with fail
      go_roundw
      case rel => exact ⟨i + 1, _, by omega, by first | trivial | go_num, rfl, HS2, HB1⟩
      case measure => simp [intOf]; omega
    · obtain rfl : i = zs.length := by omega
      have hltI : ¬ (zs.length : Int) < (zs.length : Int) := by omega
      have e : S = bytes (dot zs) := by rw [HS.out, List.take_length]
      subst e
      go_wp2_with fail
      go_ret
      exact ⟨rfl, HB.out⟩
/-- A step. -/
structure St where
  o : Bool
  r : Int
  c : Int
  a : Int
  b : Int
  d : Int
  e : Int
  f : Int
instance : Inhabited St := ⟨⟨false, 0, 0, 0, 0, 0, 0, 0⟩⟩
def St.ok (t : St) : Prop := Fit64 t.r ∧ Fit64 t.c ∧ Fit64 t.a ∧ Fit64 t.b ∧ Fit64 t.d ∧ Fit64 t.e ∧ Fit64 t.f
def stT (t : St) : List UInt8 := if t.o then [111, 102, 102] ++ dot [t.r, t.c] else (dot [t.a, t.b, t.f, t.d, t.e]).tail
theorem dotted_new (g : Nat) (zs : List Int) (w : World) (hg : g = w.heap.size) (hz : ∀ z ∈ zs, Fit64 z) (hl : zs.length ≤ 100) (hp : Pow w) :
    Calls Tryd.prog 30 #[.slice (some ⟨g, 0, none⟩) zs.length zs.length] (w.alloc (.cells (zs.map (Value.int .i64)).toArray 3)) fun e w' => e = .returned (.string (bytes (dot zs))) ∧ Below w.heap.size w w' := by
  subst hg
  have hb := (Below.refl w.heap.size w).alloc (Nat.le_refl _) (.cells (zs.map (Value.int .i64)).toArray 3)
  refine (dotted_a w.heap.size zs _ (by simp) hz hl (fun j hj => ?_) (hp.below hb (Nat.le_refl _))).mono ?_
  · rw [(Blk.new w 3 _).cell]
    simp [hj]
  · rintro e w' ⟨rfl, hb2⟩
    exact ⟨rfl, hb.trans (hb2.mono hb.size)⟩
theorem tail_ext (x : UInt8) (xs : List UInt8) : (bytes (x :: xs)).extract 1 (bytes (x :: xs)).size = bytes xs := by
  apply ByteArray.ext_getElem
  · rw [ByteArray.size_extract, bytes_size, bytes_size]; simp
  · intro i hi hi'
    rw [ByteArray.getElem_extract]
    have e : ∀ (l : List UInt8) (j : Nat) (h : j < (bytes l).size), (bytes l)[j] = l[j]'(by rwa [bytes_size] at h) := fun l j h => rfl
    rw [e, e]
    simp [Nat.add_comm 1]
set_option maxRecDepth 100000 in
set_option maxHeartbeats 1000000 in
theorem text_st (t : St) (w : World) (ht : t.ok) (hp : Pow w) :
    Calls Tryd.prog 27 #[.agg #[.bool t.o, .int .i64 t.r, .int .i64 t.c, .int .i64 t.a, .int .i64 t.b, .int .i64 t.d, .int .i64 t.e, .int .i64 t.f]] w fun e w' => e = .returned (.string (bytes (stT t))) ∧ Below w.heap.size w w' := by
  obtain ⟨o, r, c, a, b, d, e, f⟩ := t
  obtain ⟨k1, k2, k3, k4, k5, k6, k7⟩ := ht
  simp only at k1 k2 k3 k4 k5 k6 k7
  have HP := hide hp
  cases o with
  | true =>
    have hz : ∀ z ∈ [r, c], Fit64 z := by intro z hz; simp at hz; rcases hz with rfl | rfl <;> assumption
    have D := hide (fun g w' hg => dotted_new g [r, c] w' hg hz (by simp))
    have l : (bytes (dot [r, c])).size ≤ 44 := by rw [bytes_size]; exact dot_len _ hz
    have E : Hid (bytes [111, 102, 102] ++ bytes (dot [r, c]) = bytes (stT ⟨true, r, c, a, b, d, e, f⟩)) := hide (by rw [bytes_app]; rfl)
    rw [← E.out]
    generalize bytes (dot [r, c]) = S at *
    have l1 : ¬ 9223372036854775807 < 3 + S.size := by omega
    clear hp k1 k2 k3 k4 k5 k6 k7 hz
    go_enter Tryd.func27, Tryd.ntmps27
    go_wp2_with fail
    have hb1 := (Below.refl w.heap.size w).alloc (Nat.le_refl _) (.cells #[.bool true, .int .i64 r, .int .i64 c, .int .i64 a, .int .i64 b, .int .i64 d, .int .i64 e, .int .i64 f] 49)
    refine (D.out _ _ (by simp) (HP.out.below hb1 (Nat.le_refl _))).mono ?_
    rintro e w1 ⟨rfl, hb2⟩
    have HB := hide (hb1.trans (hb2.mono hb1.size))
    clear hb1 hb2
    go_wp2_with fail
    go_ret
    exact ⟨rfl, HB.out⟩
  | false =>
    have hz : ∀ z ∈ [a, b, f, d, e], Fit64 z := by intro z hz; simp at hz; rcases hz with rfl | rfl | rfl | rfl | rfl <;> assumption
    have D := hide (fun g w' hg => dotted_new g [a, b, f, d, e] w' hg hz (by simp))
    have l : 1 ≤ (bytes (dot [a, b, f, d, e])).size := by rw [bytes_size]; simp [dot]
    have E : Hid ((bytes (dot [a, b, f, d, e])).extract 1 (bytes (dot [a, b, f, d, e])).size = bytes (stT ⟨false, r, c, a, b, d, e, f⟩)) := hide (by
      have : dot [a, b, f, d, e] = 46 :: (dot [a, b, f, d, e]).tail := rfl
      rw [this, tail_ext]
      rfl)
    rw [← E.out]
    generalize bytes (dot [a, b, f, d, e]) = S at *
    have l1 : (1 : Int) ≤ (S.size : Int) := by omega
    clear hp k1 k2 k3 k4 k5 k6 k7 hz
    go_enter Tryd.func27, Tryd.ntmps27
    go_wp2_with fail
    have hb0 := (Below.refl w.heap.size w).alloc (Nat.le_refl _) (.cells #[.bool false, .int .i64 r, .int .i64 c, .int .i64 a, .int .i64 b, .int .i64 d, .int .i64 e, .int .i64 f] 49)
    have hb1 := hb0.alloc hb0.size (.cells #[.int .i64 a, .int .i64 b, .int .i64 d, .int .i64 e, .int .i64 f] 47)
    refine (D.out _ _ (by simp) (HP.out.below hb1 (Nat.le_refl _))).mono ?_
    rintro e w1 ⟨rfl, hb2⟩
    have HB := hide (hb1.trans (hb2.mono hb1.size))
    clear hb0 hb1 hb2
    go_wp2_with fail
    go_ret
    exact ⟨rfl, HB.out⟩
end Go.Proofs.YtiojpokfcejhcaaDoor
