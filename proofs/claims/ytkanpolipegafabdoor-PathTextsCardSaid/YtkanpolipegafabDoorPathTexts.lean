/- The walk of the statement PathTexts. -/
import Derived.Test.YtkanpolipegafabDoorRows
import Derived.Test.YtkanpolipegafabDoorPathTextsA
import Derived.Test.YtkanpolipegafabDoorBuilder
import Derived.Test.YtkanpolipegafabDoorQuietBelow
import Derived.Deep.RegionWith
namespace Go.Proofs.YtkanpolipegafabDoor.PathTextsW
open Go.Joins Go.ChangeShapes Go.WideShapes Go.RowKit Go.Deep Go.Proofs.YtkanpolipegafabDoor
open Go.Lib (itoa itoa_length_le)
set_option linter.unusedVariables false
set_option linter.unusedSimpArgs false
def StAt (w : World) (a : Addr) (i : Nat) (t : St) : Prop :=
  w.cell? (a.add (i * 8)) = some (.bool t.o) ∧ w.cell? ⟨(a.add (i * 8)).block, (a.add (i * 8)).off + 1, none⟩ = some (.int .i64 t.r) ∧ w.cell? ⟨(a.add (i * 8)).block, (a.add (i * 8)).off + 2, none⟩ = some (.int .i64 t.c) ∧
    w.cell? ⟨(a.add (i * 8)).block, (a.add (i * 8)).off + 3, none⟩ = some (.int .i64 t.a) ∧ w.cell? ⟨(a.add (i * 8)).block, (a.add (i * 8)).off + 4, none⟩ = some (.int .i64 t.b) ∧ w.cell? ⟨(a.add (i * 8)).block, (a.add (i * 8)).off + 5, none⟩ = some (.int .i64 t.d) ∧
    w.cell? ⟨(a.add (i * 8)).block, (a.add (i * 8)).off + 6, none⟩ = some (.int .i64 t.e) ∧ w.cell? ⟨(a.add (i * 8)).block, (a.add (i * 8)).off + 7, none⟩ = some (.int .i64 t.f)
def StRow (w : World) (A : Option Addr) (n : Nat) (T : Nat → St) : Prop :=
  n ≤ maxLen ∧ ((n = 0) ∨ ∃ a, A = some a ∧ a.block < w.heap.size ∧ ∀ i, i < n → (T i).ok ∧ StAt w a i (T i))
theorem StAt.keep {w w' : World} {a : Addr} {i : Nat} {t : St} (hk : ∀ p : Addr, p.block < w.heap.size → w'.cell? p = w.cell? p) (ha : a.block < w.heap.size) (h : StAt w a i t) : StAt w' a i t := by
  have e : (a.add (i * 8)).block < w.heap.size := by rw [block_of_add]; exact ha
  obtain ⟨h0, h1, h2, h3, h4, h5, h6, h7⟩ := h
  have k : ∀ j, w'.cell? ⟨(a.add (i * 8)).block, (a.add (i * 8)).off + j, none⟩ = w.cell? ⟨(a.add (i * 8)).block, (a.add (i * 8)).off + j, none⟩ := fun j => hk ⟨(a.add (i * 8)).block, (a.add (i * 8)).off + j, none⟩ e
  exact ⟨(hk _ e).trans h0, (k 1).trans h1, (k 2).trans h2, (k 3).trans h3, (k 4).trans h4, (k 5).trans h5, (k 6).trans h6, (k 7).trans h7⟩
theorem StRow.below {w w' : World} {A : Option Addr} {n : Nat} {T : Nat → St} (h : StRow w A n T) (hb : Below w.heap.size w w') : StRow w' A n T := by
  rcases h with ⟨hn, rfl | ⟨a, rfl, ha, h⟩⟩
  · exact ⟨hn, .inl rfl⟩
  · exact ⟨hn, .inr ⟨a, rfl, Nat.lt_of_lt_of_le ha hb.size, fun i hi => ⟨(h i hi).1, (h i hi).2.keep (fun p hp => hb.cell hp) ha⟩⟩⟩
theorem StRow.at_ {w : World} {A : Option Addr} {n : Nat} {T : Nat → St} (h : StRow w A n T) {i : Nat} (hi : i < n) : ∃ a, A = some a ∧ a.block < w.heap.size ∧ (T i).ok ∧ StAt w a i (T i) := by
  rcases h with ⟨_, rfl | ⟨a, rfl, ha, h⟩⟩
  · omega
  · exact ⟨a, rfl, ha, h i hi⟩
def stK : List Kd := [.b, .i .i64, .i .i64, .i .i64, .i .i64, .i .i64, .i .i64, .i .i64]
theorem i64_fit {v : Value} (h : Kd.fits (.i .i64) v) : ∃ n, v = .int .i64 n ∧ Fit64 n := by
  obtain ⟨n, rfl, hw⟩ := h
  refine ⟨n, rfl, ?_⟩
  simp [Lit.wf] at hw
  have h1 : IntKind.i64.min = -9223372036854775808 := rfl
  have h2 : IntKind.i64.max = 9223372036854775807 := rfl
  unfold Fit64
  omega
section
variable {H : Type} {enc : TypeId × Value → H} {w : World} {base : Nat} {spare : Nat → Bool} {held : Bool}
theorem StRow.of {fuel : Nat} {v : Value} {x : DataW H × List MemPlace} (h : DataW.trod enc Tryd.prog w base spare held fuel 22 [v] = some x) :
    ∃ A n c T, v = .slice A n c ∧ StRow w A n T := by
  rcases flat_slice (ks := stK) (f := 30) Tryd.underlying22 (by kernel_rfl) (by kernel_rfl) h with h0 | ⟨a, len, cap, h0, hl, hm, hi⟩
  · obtain rfl : v = .slice none 0 0 := by simpa using h0
    exact ⟨none, 0, 0, fun _ => default, rfl, by unfold maxLen; omega, .inl rfl⟩
  · obtain rfl : v = .slice (some a) len cap := by simpa using h0
    have h : ∀ i, i < len → ∃ t : St, t.ok ∧ StAt w a i t := by
      intro i hik
      obtain ⟨v0, g0, o, rfl⟩ := hi i hik 0 _ rfl
      obtain ⟨v1, g1, f1⟩ := hi i hik 1 _ rfl
      obtain ⟨v2, g2, f2⟩ := hi i hik 2 _ rfl
      obtain ⟨v3, g3, f3⟩ := hi i hik 3 _ rfl
      obtain ⟨v4, g4, f4⟩ := hi i hik 4 _ rfl
      obtain ⟨v5, g5, f5⟩ := hi i hik 5 _ rfl
      obtain ⟨v6, g6, f6⟩ := hi i hik 6 _ rfl
      obtain ⟨v7, g7, f7⟩ := hi i hik 7 _ rfl
      obtain ⟨z1, rfl, k1⟩ := i64_fit f1
      obtain ⟨z2, rfl, k2⟩ := i64_fit f2
      obtain ⟨z3, rfl, k3⟩ := i64_fit f3
      obtain ⟨z4, rfl, k4⟩ := i64_fit f4
      obtain ⟨z5, rfl, k5⟩ := i64_fit f5
      obtain ⟨z6, rfl, k6⟩ := i64_fit f6
      obtain ⟨z7, rfl, k7⟩ := i64_fit f7
      rw [← Go.Deep.add_add] at g1 g2 g3 g4 g5 g6 g7
      exact ⟨⟨o, z1, z2, z3, z4, z5, z6, z7⟩, ⟨k1, k2, k3, k4, k5, k6, k7⟩, g0, g1, g2, g3, g4, g5, g6, g7⟩
    obtain ⟨T, hT⟩ := choose_lt h
    rcases Nat.eq_zero_or_pos len with h0 | h0
    · exact ⟨some a, len, cap, T, rfl, by omega, .inl h0⟩
    · refine ⟨some a, len, cap, T, rfl, by omega, .inr ⟨a, rfl, ?_, hT⟩⟩
      obtain ⟨_, g, _⟩ := hT 0 h0
      rcases Nat.lt_or_ge a.block w.heap.size with h | h
      · exact h
      · have : w.cell? (a.add (0 * 8)) = none := by simp [World.cell?, Addr.add, Array.getElem?_eq_none h]
        rw [this] at g; cases g
end
def txt (T : Nat → St) : Nat → List UInt8
  | 0 => []
  | i + 1 => (txt T i ++ (if i = 0 then [] else [32])) ++ stT (T i)
theorem stT_len (t : St) (h : t.ok) : (stT t).length ≤ 113 := by
  obtain ⟨k1, k2, k3, k4, k5, k6, k7⟩ := h
  unfold stT
  split
  · have := dot_len [t.r, t.c] (by intro z hz; simp at hz; rcases hz with rfl | rfl <;> assumption)
    simp at this ⊢
    omega
  · have := dot_len [t.a, t.b, t.f, t.d, t.e] (by intro z hz; simp at hz; rcases hz with rfl | rfl | rfl | rfl | rfl <;> assumption)
    simp at this ⊢
    omega
theorem stT_pos (t : St) : stT t ≠ [] := by
  unfold stT
  split
  · simp
  · intro h
    have := congrArg List.length h
    simp [dot] at this
theorem txt_le (T : Nat → St) (n : Nat) (h : ∀ i, i < n → (T i).ok) : (txt T n).length ≤ n * 114 := by
  induction n with
  | zero => simp [txt]
  | succ n ih =>
    have h1 := ih fun i hi => h i (by omega)
    have h2 := stT_len _ (h n (by omega))
    unfold txt
    by_cases h0 : n = 0
    · subst h0
      simp [txt] at h2 ⊢
      omega
    · simp [h0] at h2 ⊢
      omega
theorem own_below' {w w' : World} {B size n : Nat} {e : TypeId} {v : Value} {xs : List Value} (h : w.ownsRow B e size v n xs) (hb : Below w.heap.size w w') : w'.ownsRow B e size v n xs := by
  refine ⟨h.1, h.2.imp id ?_⟩
  rintro ⟨g, cap, cur, rfl, hge, hh, r⟩
  exact ⟨g, cap, cur, rfl, hge, (hb.block g (Array.getElem?_eq_some_iff.1 hh).1).trans hh, r⟩
theorem isB_below {T e : TypeId} {B b : Nat} {bs : List Value} {w w' : World} (h : Lib.IsBuilder T e B b bs w) (hbl : Below w.heap.size w w') : Lib.IsBuilder T e B b bs w' := by
  have hlt := isB_lt h
  rcases h with ⟨hB, v, hb, hown, hne⟩ | ⟨hB, v, hb, hown, hne⟩
  · exact .inl ⟨hB, v, (hbl.block b hlt).trans hb, own_below' hown hbl, hne⟩
  · exact .inr ⟨hB, v, (hbl.block b hlt).trans hb, own_below' hown hbl, hne⟩
theorem byteCells_bytes (l x : List UInt8) : Lib.byteCells l ++ Lib.strCells (bytes x) = Lib.byteCells (l ++ x) := by simp [Lib.byteCells, Lib.strCells, bytes]
set_option maxRecDepth 100000 in
set_option maxHeartbeats 4000000 in
theorem text_a (A : Option Addr) (n c : Nat) (T : Nat → St) (w : World) (h : StRow w A n T) (hn : n ≤ 200) (h0 : 0 < n) (hp : Pow w) :
    Calls Tryd.prog 4 #[.slice A n c] w fun e w' => e = .returned (.string (bytes (txt T n))) ∧ Below w.heap.size w w' := by
  have H := hide h
  have HP := hide hp
  have hn0 : ((n : Int) == 0) = false := by
    have : ¬ (n : Int) = 0 := by omega
    simpa using this
  clear h hp
  go_enter Tryd.func4, Tryd.ntmps4
  go_wp2_with fail
  go_loopw [11] (fun i wr => ∃ k : Nat, k ≤ n ∧ i = .int .i64 k ∧ Lib.IsBuilder 28 5 w.heap.size w.heap.size (Lib.byteCells (txt T k)) wr ∧ Below w.heap.size w wr) (fun i _ => n - (intOf i).toNat)
  case atStart => exact ⟨0, by omega, rfl, Lib.fresh_isBuilder _ _ w, (Below.refl _ _).alloc (Nat.le_refl _) _⟩
  case round =>
    obtain ⟨k, hk, rfl, hI, hB⟩ := hrel
    have hsz := hB.size
    have HI := hide hI
    have HB := hide hB
    by_cases hlt : k < n
    · obtain ⟨a, rfl, ha, hok, h0, h1, h2, h3, h4, h5, h6, h7⟩ := (H.out.below hB).at_ hlt
      have hl := txt_le T k fun i hi => by obtain ⟨_, _, _, h, _⟩ := H.out.at_ (show i < n by omega); exact h
      have hl2 : (txt T k).length ≤ 22800 := by omega
      have hs2 : (bytes (stT (T k))).size ≤ 113 := by rw [bytes_size]; exact stT_len _ hok
      have hbl := isB_lt hI
      have hltI : (k : Int) < (n : Int) := by omega
      have TS := hide (fun w' hp => text_st (T k) w' hok hp)
      have hsb : wr.heap.size ≠ w.heap.size := by omega
      have E0 : Hid (k = 0 → Lib.byteCells (txt T k) ++ Lib.strCells (bytes (stT (T k))) = Lib.byteCells (txt T (k + 1))) := hide fun h => by
        subst h
        rw [byteCells_bytes]; simp [txt]
      have E1 : Hid (k ≠ 0 → Lib.byteCells (txt T k) ++ [.int .u8 32] ++ Lib.strCells (bytes (stT (T k))) = Lib.byteCells (txt T (k + 1))) := hide fun h => by
        have : (Lib.byteCells (txt T k) ++ [.int .u8 32] : List Value) = Lib.byteCells (txt T k ++ [32]) := by simp [Lib.byteCells]
        rw [this, byteCells_bytes]; simp [txt, h]
      clear hI hB hok
      generalize bytes (stT (T k)) = S at *
      generalize T k = tk at *
      obtain ⟨o, r, c, a', b, d, e, f⟩ := tk
      simp only at h0 h1 h2 h3 h4 h5 h6 h7 TS
      by_cases hz : (0 : Int) < (k : Int)
      · have hpos : k ≠ 0 := by omega
        go_wp2_with fail
        refine (write_byte w.heap.size w.heap.size (Lib.byteCells (txt T k)) 32 _ (isB_alloc HI.out _) (by simp only [Lib.byteCells_length]; omega) (by simp; omega)).mono ?_
        rintro e w1 ⟨rfl, i1, b1, k1⟩
        have hblk := k1 wr.heap.size _ (heap_alloc_new wr _) (by simpa using hsb) (by intro c fz; simp)
        have q : ∀ j v, (#[.bool o, .int .i64 r, .int .i64 c, .int .i64 a', .int .i64 b, .int .i64 d, .int .i64 e, .int .i64 f] : Array Value)[j]? = some v → w1.cell? ⟨wr.heap.size, j, none⟩ = some v := fun j v hj => by rw [Lib.cell_of_heap hblk]; exact hj
        have q0 := q 0 _ rfl
        have q1 := q 1 _ rfl
        have q2 := q 2 _ rfl
        have q3 := q 3 _ rfl
        have q4 := q 4 _ rfl
        have q5 := q 5 _ rfl
        have q6 := q 6 _ rfl
        have q7 := q 7 _ rfl
        have hs1 := b1.size
        have I1 := hide i1
        have B1 := hide b1
        clear i1 b1 k1 hblk q
        go_wp2_with fail
        refine (TS.out w1 (HP.out.below (HB.out.trans (((Below.refl _ wr).alloc (Nat.le_refl _) _).mono hsz |>.trans B1.out)) (Nat.le_refl _))).mono ?_
        rintro e w2 ⟨rfl, hb2⟩
        have I2 := hide (isB_below (.inr I1.out) hb2)
        have hs2' := hb2.size
        have B2 := hide (B1.out.trans (hb2.mono (by simp at hs1; omega)))
        clear hb2
        go_wp2_with fail
        refine (write_string w.heap.size w.heap.size _ S _ I2.out (by simp only [List.length_append, Lib.byteCells_length, List.length_singleton]; omega) (by simp at hs1; omega)).mono ?_
        rintro e w3 ⟨rfl, i3, b3, k3⟩
        rw [E1.out hpos] at i3
        have I3 := hide i3
        have B3 := hide ((HB.out.alloc hsz _).trans (B2.out.trans b3))
        clear i3 b3 k3 hs1
        go_wp2_with fail
        go_roundw
        case rel => exact ⟨k + 1, by omega, by go_num, .inr I3.out, B3.out⟩
        case measure => simp [intOf]; omega
      · have hz2 : decide ((0 : Int) < (k : Int)) = false := by simpa using hz
        have HK := hide (show k = 0 by omega)
        have b1 := (Below.refl wr.heap.size wr).alloc (Nat.le_refl _) (.cells #[.bool o, .int .i64 r, .int .i64 c, .int .i64 a', .int .i64 b, .int .i64 d, .int .i64 e, .int .i64 f] 32)
        have B1 := hide b1
        have I1 := hide (isB_below HI.out b1)
        clear b1
        go_wp2_with fail
        refine (TS.out _ (HP.out.below (HB.out.trans (B1.out.mono hsz)) (Nat.le_refl _))).mono ?_
        rintro e w2 ⟨rfl, hb2⟩
        have I2 := hide (isB_below I1.out hb2)
        have B2 := hide (HB.out.trans ((B1.out.trans (hb2.mono B1.out.size)).mono hsz))
        clear hb2
        go_wp2_with fail
        refine (write_string w.heap.size w.heap.size _ S _ I2.out (by simp only [Lib.byteCells_length]; omega) B2.out.size).mono ?_
        rintro e w3 ⟨rfl, i3, b3, k3⟩
        rw [E0.out HK.out] at i3
        have I3 := hide i3
        have B3 := hide (B2.out.trans b3)
        clear i3 b3 k3
        go_wp2_with fail
        go_roundw
        case rel => exact ⟨k + 1, by omega, by go_num, .inr I3.out, B3.out⟩
        case measure => simp [intOf]; omega
    · obtain rfl : k = n := by omega
      clear hI hB
      have hltI : ¬ (k : Int) < (k : Int) := by omega
      go_wp2_with fail
      refine (Tryd.Builder_String_any _ _ _ _ HI.out hsz).mono ?_
      rintro e w' ⟨rfl, hb⟩
      go_wp2_with fail
      go_ret
      exact ⟨rfl, HB.out.trans hb⟩
theorem txt_pos {T : Nat → St} {n : Nat} (h : 0 < n) : txt T n ≠ [] := by
  cases n with
  | zero => omega
  | succ n =>
    intro h
    have := congrArg List.length h
    have h2 := stT_pos (T n)
    have : 0 < (stT (T n)).length := List.length_pos_iff.2 h2
    simp only [txt, List.length_append, List.length_nil] at *
    omega
theorem stT_off (t : St) (h : t.o = true) : bytes (stT t) = bytes [111, 102, 102, 46] ++ bytes (itoa t.r) ++ bytes [46] ++ bytes (itoa t.c) := by
  simp [stT, h, dot, bytes_app]
theorem stT_on (t : St) (h : t.o = false) : bytes (stT t) = bytes (itoa t.a) ++ bytes [46] ++ bytes (itoa t.b) ++ bytes [46] ++ bytes (itoa t.f) ++ bytes [46] ++ bytes (itoa t.d) ++ bytes [46] ++ bytes (itoa t.e) := by
  simp [stT, h, dot, bytes_app]
set_option maxRecDepth 100000 in
set_option maxHeartbeats 4000000 in
theorem text_b (A : Option Addr) (n c : Nat) (T : Nat → St) (w : World) (h : StRow w A n T) (hn : n ≤ 200) (h0 : 0 < n) :
    Calls Tryd.prog 5 #[.slice A n c] w fun e w' => e = .returned (.string (bytes (txt T n))) ∧ Below w.heap.size w w' := by
  have H := hide h
  clear h
  go_enter Tryd.func5, Tryd.ntmps5
  go_wp2_with fail
  go_loopw [3, 4] (fun vs vi wr => ∃ (k : Nat) (S : ByteArray), k ≤ n ∧ vi = .int .i64 k ∧ vs = .string S ∧ Hid (S = bytes (txt T k)) ∧ Hid (Below w.heap.size w wr)) (fun _ vi _ => n - (intOf vi).toNat)
  case atStart => exact ⟨0, ⟨#[]⟩, by omega, rfl, rfl, hide rfl, hide (Below.refl _ _)⟩
  case round =>
    obtain ⟨k, S, hk, rfl, rfl, HS, HB⟩ := hrel
    by_cases hlt : k < n
    · obtain ⟨a, rfl, ha, hok, h0, h1, h2, h3, h4, h5, h6, h7⟩ := (H.out.below HB.out).at_ hlt
      have hl := txt_le T k fun i hi => by obtain ⟨_, _, _, h, _⟩ := H.out.at_ (show i < n by omega); exact h
      have hl2 : S.size ≤ 22800 := by rw [HS.out, bytes_size]; omega
      have hltI : (k : Int) < (n : Int) := by omega
      have E0 : Hid (k = 0 → S ++ bytes (stT (T k)) = bytes (txt T (k + 1))) := hide fun h => by
        rw [HS.out]
        subst h
        rw [bytes_app]; simp [txt]
      have E1 : Hid (k ≠ 0 → S ++ bytes [32] ++ bytes (stT (T k)) = bytes (txt T (k + 1))) := hide fun h => by
        rw [HS.out, bytes_app, bytes_app]; simp [txt, h]
      obtain ⟨k1, k2, k3, k4, k5, k6, k7⟩ := hok
      have N1 := hide (fun w' => number24_b (T k).r k1.1 k1.2 w')
      have N2 := hide (fun w' => number24_b (T k).c k2.1 k2.2 w')
      have N3 := hide (fun w' => number24_b (T k).a k3.1 k3.2 w')
      have N4 := hide (fun w' => number24_b (T k).b k4.1 k4.2 w')
      have N5 := hide (fun w' => number24_b (T k).d k5.1 k5.2 w')
      have N6 := hide (fun w' => number24_b (T k).e k6.1 k6.2 w')
      have N7 := hide (fun w' => number24_b (T k).f k7.1 k7.2 w')
      have l1 : (bytes (itoa (T k).r)).size ≤ 21 := by rw [bytes_size]; exact itoa_len _ k1
      have l2 : (bytes (itoa (T k).c)).size ≤ 21 := by rw [bytes_size]; exact itoa_len _ k2
      have l3 : (bytes (itoa (T k).a)).size ≤ 21 := by rw [bytes_size]; exact itoa_len _ k3
      have l4 : (bytes (itoa (T k).b)).size ≤ 21 := by rw [bytes_size]; exact itoa_len _ k4
      have l5 : (bytes (itoa (T k).d)).size ≤ 21 := by rw [bytes_size]; exact itoa_len _ k5
      have l6 : (bytes (itoa (T k).e)).size ≤ 21 := by rw [bytes_size]; exact itoa_len _ k6
      have l7 : (bytes (itoa (T k).f)).size ≤ 21 := by rw [bytes_size]; exact itoa_len _ k7
      rcases ho : (T k).o with _ | _
      · rw [stT_on _ ho] at E0 E1
        rw [ho] at h0
        clear k1 k2 k3 k4 k5 k6 k7 l1 l2 N1 N2
        generalize bytes (itoa (T k).a) = S3 at *
        generalize bytes (itoa (T k).b) = S4 at *
        generalize bytes (itoa (T k).d) = S5 at *
        generalize bytes (itoa (T k).e) = S6 at *
        generalize bytes (itoa (T k).f) = S7 at *
        generalize (T k).r = z1 at *
        generalize (T k).c = z2 at *
        generalize (T k).a = z3 at *
        generalize (T k).b = z4 at *
        generalize (T k).d = z5 at *
        generalize (T k).e = z6 at *
        generalize (T k).f = z7 at *

        have b1 := (Below.refl wr.heap.size wr).alloc (Nat.le_refl _) (.cells #[.int .i64 z3, .int .i64 z4, .int .i64 z5, .int .i64 z6, .int .i64 z7] 30)
        have ha' : (a.add (k * 8)).block < wr.heap.size := by rw [block_of_add]; exact ha
        have f0 := (b1.cell (p := a.add (k * 8)) ha').trans h0
        have f1 := (b1.cell (p := ⟨(a.add (k * 8)).block, (a.add (k * 8)).off + 1, none⟩) ha').trans h1
        have f2 := (b1.cell (p := ⟨(a.add (k * 8)).block, (a.add (k * 8)).off + 2, none⟩) ha').trans h2
        have bk := Blk.new wr 30 #[.int .i64 z3, .int .i64 z4, .int .i64 z5, .int .i64 z6, .int .i64 z7]
        have hbs : wr.heap.size < (wr.alloc (.cells #[.int .i64 z3, .int .i64 z4, .int .i64 z5, .int .i64 z6, .int .i64 z7] 30)).heap.size := by simp
        have HB1 := hide (HB.out.trans (b1.mono HB.out.size))
        by_cases hz : (0 : Int) < (k : Int)
        · have EE0 := hide (E1.out (by omega))
          have hcat : ¬ 9223372036854775807 < S.size + 1 := by omega
          go_wp2_with fail
          have hx : (S ++ (⟨#[32]⟩ : ByteArray)).size ≤ 22801 := by rw [ByteArray.size_append, show (⟨#[32]⟩ : ByteArray).size = 1 from rfl]; omega
          have EE0' : Hid (∀ Sx, S ++ (⟨#[32]⟩ : ByteArray) = Sx → Sx ++ S3 ++ ⟨#[46]⟩ ++ S4 ++ ⟨#[46]⟩ ++ S7 ++ ⟨#[46]⟩ ++ S5 ++ ⟨#[46]⟩ ++ S6 = bytes (txt T (k + 1))) := hide fun Sx hSx => by
            subst hSx
            rw [← EE0.out]
            simp only [bytes, ByteArray.append_assoc]
            try rfl
          generalize hSx : S ++ (⟨#[32]⟩ : ByteArray) = Sx at *
          have EE := hide (EE0'.out Sx rfl)
          generalize wr.alloc (.cells #[.int .i64 z3, .int .i64 z4, .int .i64 z5, .int .i64 z6, .int .i64 z7] 30) = W1 at *
          have NE : Nonempty (BelowOf W1) := ⟨⟨W1, Below.refl _ _⟩⟩

          have q0 : ∀ p : BelowOf W1, p.world.cell? ⟨wr.heap.size, 0, none⟩ = some (.int .i64 z3) := fun p => p.cell hbs (bk.cell 0)
          have q1 : ∀ p : BelowOf W1, p.world.cell? ⟨wr.heap.size, 1, none⟩ = some (.int .i64 z4) := fun p => p.cell hbs (bk.cell 1)
          have q2 : ∀ p : BelowOf W1, p.world.cell? ⟨wr.heap.size, 2, none⟩ = some (.int .i64 z5) := fun p => p.cell hbs (bk.cell 2)
          have q3 : ∀ p : BelowOf W1, p.world.cell? ⟨wr.heap.size, 3, none⟩ = some (.int .i64 z6) := fun p => p.cell hbs (bk.cell 3)
          have q4 : ∀ p : BelowOf W1, p.world.cell? ⟨wr.heap.size, 4, none⟩ = some (.int .i64 z7) := fun p => p.cell hbs (bk.cell 4)
          have m0 : ¬ 9223372036854775807 < Sx.size + S3.size := by omega
          have m1 : ¬ 9223372036854775807 < Sx.size + S3.size + 1 := by omega
          have m2 : ¬ 9223372036854775807 < Sx.size + S3.size + 1 + S4.size := by omega
          have m3 : ¬ 9223372036854775807 < Sx.size + S3.size + 1 + S4.size + 1 := by omega
          have m4 : ¬ 9223372036854775807 < Sx.size + S3.size + 1 + S4.size + 1 + S7.size := by omega
          have m5 : ¬ 9223372036854775807 < Sx.size + S3.size + 1 + S4.size + 1 + S7.size + 1 := by omega
          have m6 : ¬ 9223372036854775807 < Sx.size + S3.size + 1 + S4.size + 1 + S7.size + 1 + S5.size := by omega
          have m7 : ¬ 9223372036854775807 < Sx.size + S3.size + 1 + S4.size + 1 + S7.size + 1 + S5.size + 1 := by omega
          have m8 : ¬ 9223372036854775807 < Sx.size + S3.size + 1 + S4.size + 1 + S7.size + 1 + S5.size + 1 + S6.size := by omega
          clear f0 f1 f2 h0 h1 h2 h3 h4 h5 h6 h7 b1 bk
          refine wp_region_quiet_below (by kernel_rfl) (by kernel_rfl) ?_
          repeat (go_big_quiet_step (first
            | (go_at_call_of 10 (Value.int .i64 z3); refine calls_below (N3.out _))
            | (go_at_call_of 10 (Value.int .i64 z4); refine calls_below (N4.out _))
            | (go_at_call_of 10 (Value.int .i64 z5); refine calls_below (N5.out _))
            | (go_at_call_of 10 (Value.int .i64 z6); refine calls_below (N6.out _))
            | (go_at_call_of 10 (Value.int .i64 z7); refine calls_below (N7.out _))))

          refine wpQuiet_nil ?_
          rintro Wq ⟨⟨_, hq⟩, rfl⟩
          have HQ := hide (HB1.out.trans (hq.mono HB1.out.size))
          clear hq
          go_wp2_with fail
          go_roundw
          case rel => exact ⟨k + 1, _, by omega, by first | trivial | go_num, rfl, EE, HQ⟩
          case measure => simp [intOf]; omega
        · have EE0 := hide (E0.out (by omega))
          have hz2 : decide ((0 : Int) < (k : Int)) = false := by simpa using hz
          have EE : Hid (S ++ S3 ++ ⟨#[46]⟩ ++ S4 ++ ⟨#[46]⟩ ++ S7 ++ ⟨#[46]⟩ ++ S5 ++ ⟨#[46]⟩ ++ S6 = bytes (txt T (k + 1))) := hide (by
            rw [← EE0.out]
            simp only [bytes, ByteArray.append_assoc]
            try rfl)
          have hx : S.size ≤ 22801 := by omega
          go_wp2_with fail
          generalize wr.alloc (.cells #[.int .i64 z3, .int .i64 z4, .int .i64 z5, .int .i64 z6, .int .i64 z7] 30) = W1 at *
          have NE : Nonempty (BelowOf W1) := ⟨⟨W1, Below.refl _ _⟩⟩

          have q0 : ∀ p : BelowOf W1, p.world.cell? ⟨wr.heap.size, 0, none⟩ = some (.int .i64 z3) := fun p => p.cell hbs (bk.cell 0)
          have q1 : ∀ p : BelowOf W1, p.world.cell? ⟨wr.heap.size, 1, none⟩ = some (.int .i64 z4) := fun p => p.cell hbs (bk.cell 1)
          have q2 : ∀ p : BelowOf W1, p.world.cell? ⟨wr.heap.size, 2, none⟩ = some (.int .i64 z5) := fun p => p.cell hbs (bk.cell 2)
          have q3 : ∀ p : BelowOf W1, p.world.cell? ⟨wr.heap.size, 3, none⟩ = some (.int .i64 z6) := fun p => p.cell hbs (bk.cell 3)
          have q4 : ∀ p : BelowOf W1, p.world.cell? ⟨wr.heap.size, 4, none⟩ = some (.int .i64 z7) := fun p => p.cell hbs (bk.cell 4)
          have m0 : ¬ 9223372036854775807 < S.size + S3.size := by omega
          have m1 : ¬ 9223372036854775807 < S.size + S3.size + 1 := by omega
          have m2 : ¬ 9223372036854775807 < S.size + S3.size + 1 + S4.size := by omega
          have m3 : ¬ 9223372036854775807 < S.size + S3.size + 1 + S4.size + 1 := by omega
          have m4 : ¬ 9223372036854775807 < S.size + S3.size + 1 + S4.size + 1 + S7.size := by omega
          have m5 : ¬ 9223372036854775807 < S.size + S3.size + 1 + S4.size + 1 + S7.size + 1 := by omega
          have m6 : ¬ 9223372036854775807 < S.size + S3.size + 1 + S4.size + 1 + S7.size + 1 + S5.size := by omega
          have m7 : ¬ 9223372036854775807 < S.size + S3.size + 1 + S4.size + 1 + S7.size + 1 + S5.size + 1 := by omega
          have m8 : ¬ 9223372036854775807 < S.size + S3.size + 1 + S4.size + 1 + S7.size + 1 + S5.size + 1 + S6.size := by omega
          clear f0 f1 f2 h0 h1 h2 h3 h4 h5 h6 h7 b1 bk
          refine wp_region_quiet_below (by kernel_rfl) (by kernel_rfl) ?_
          repeat (go_big_quiet_step (first
            | (go_at_call_of 10 (Value.int .i64 z3); refine calls_below (N3.out _))
            | (go_at_call_of 10 (Value.int .i64 z4); refine calls_below (N4.out _))
            | (go_at_call_of 10 (Value.int .i64 z5); refine calls_below (N5.out _))
            | (go_at_call_of 10 (Value.int .i64 z6); refine calls_below (N6.out _))
            | (go_at_call_of 10 (Value.int .i64 z7); refine calls_below (N7.out _))))

          refine wpQuiet_nil ?_
          rintro Wq ⟨⟨_, hq⟩, rfl⟩
          have HQ := hide (HB1.out.trans (hq.mono HB1.out.size))
          clear hq
          go_wp2_with fail
          go_roundw
          case rel => exact ⟨k + 1, _, by omega, by first | trivial | go_num, rfl, EE, HQ⟩
          case measure => simp [intOf]; omega
      · rw [stT_off _ ho] at E0 E1
        rw [ho] at h0
        clear k1 k2 k3 k4 k5 k6 k7 l3 l4 l5 l6 l7 N3 N4 N5 N6 N7
        generalize bytes (itoa (T k).r) = S1 at *
        generalize bytes (itoa (T k).c) = S2 at *
        generalize (T k).r = z1 at *
        generalize (T k).c = z2 at *
        generalize (T k).a = z3 at *
        generalize (T k).b = z4 at *
        generalize (T k).d = z5 at *
        generalize (T k).e = z6 at *
        generalize (T k).f = z7 at *

        have b1 := (Below.refl wr.heap.size wr).alloc (Nat.le_refl _) (.cells #[.int .i64 z3, .int .i64 z4, .int .i64 z5, .int .i64 z6, .int .i64 z7] 30)
        have ha' : (a.add (k * 8)).block < wr.heap.size := by rw [block_of_add]; exact ha
        have f0 := (b1.cell (p := a.add (k * 8)) ha').trans h0
        have f1 := (b1.cell (p := ⟨(a.add (k * 8)).block, (a.add (k * 8)).off + 1, none⟩) ha').trans h1
        have f2 := (b1.cell (p := ⟨(a.add (k * 8)).block, (a.add (k * 8)).off + 2, none⟩) ha').trans h2
        have bk := Blk.new wr 30 #[.int .i64 z3, .int .i64 z4, .int .i64 z5, .int .i64 z6, .int .i64 z7]
        have hbs : wr.heap.size < (wr.alloc (.cells #[.int .i64 z3, .int .i64 z4, .int .i64 z5, .int .i64 z6, .int .i64 z7] 30)).heap.size := by simp
        have HB1 := hide (HB.out.trans (b1.mono HB.out.size))
        by_cases hz : (0 : Int) < (k : Int)
        · have EE0 := hide (E1.out (by omega))
          have hcat : ¬ 9223372036854775807 < S.size + 1 := by omega
          go_wp2_with fail
          have hx : (S ++ (⟨#[32]⟩ : ByteArray)).size ≤ 22801 := by rw [ByteArray.size_append, show (⟨#[32]⟩ : ByteArray).size = 1 from rfl]; omega
          have EE0' : Hid (∀ Sx, S ++ (⟨#[32]⟩ : ByteArray) = Sx → Sx ++ ⟨#[111, 102, 102, 46]⟩ ++ S1 ++ ⟨#[46]⟩ ++ S2 = bytes (txt T (k + 1))) := hide fun Sx hSx => by
            subst hSx
            rw [← EE0.out]
            simp only [bytes, ByteArray.append_assoc]
            try rfl
          generalize hSx : S ++ (⟨#[32]⟩ : ByteArray) = Sx at *
          have EE := hide (EE0'.out Sx rfl)
          generalize wr.alloc (.cells #[.int .i64 z3, .int .i64 z4, .int .i64 z5, .int .i64 z6, .int .i64 z7] 30) = W1 at *
          have NE : Nonempty (BelowOf W1) := ⟨⟨W1, Below.refl _ _⟩⟩

          have q1 : ∀ p : BelowOf W1, p.world.cell? ⟨(a.add (k * 8)).block, (a.add (k * 8)).off + 1, none⟩ = some (.int .i64 z1) := fun p => (p.below.cell (p := ⟨(a.add (k * 8)).block, (a.add (k * 8)).off + 1, none⟩) (Nat.lt_trans ha' hbs)).trans f1
          have q2 : ∀ p : BelowOf W1, p.world.cell? ⟨(a.add (k * 8)).block, (a.add (k * 8)).off + 2, none⟩ = some (.int .i64 z2) := fun p => (p.below.cell (p := ⟨(a.add (k * 8)).block, (a.add (k * 8)).off + 2, none⟩) (Nat.lt_trans ha' hbs)).trans f2
          have m0 : ¬ 9223372036854775807 < Sx.size + 4 := by omega
          have m1 : ¬ 9223372036854775807 < Sx.size + 4 + S1.size := by omega
          have m2 : ¬ 9223372036854775807 < Sx.size + 4 + S1.size + 1 := by omega
          have m3 : ¬ 9223372036854775807 < Sx.size + 4 + S1.size + 1 + S2.size := by omega
          clear f0 f1 f2 h0 h1 h2 h3 h4 h5 h6 h7 b1 bk
          refine wp_region_quiet_below (by kernel_rfl) (by kernel_rfl) ?_
          repeat (go_big_quiet_step (first
            | (go_at_call_of 10 (Value.int .i64 z1); refine calls_below (N1.out _))
            | (go_at_call_of 10 (Value.int .i64 z2); refine calls_below (N2.out _))))

          refine wpQuiet_nil ?_
          rintro Wq ⟨⟨_, hq⟩, rfl⟩
          have HQ := hide (HB1.out.trans (hq.mono HB1.out.size))
          clear hq
          go_wp2_with fail
          go_roundw
          case rel => exact ⟨k + 1, _, by omega, by first | trivial | go_num, rfl, EE, HQ⟩
          case measure => simp [intOf]; omega
        · have EE0 := hide (E0.out (by omega))
          have hz2 : decide ((0 : Int) < (k : Int)) = false := by simpa using hz
          have EE : Hid (S ++ ⟨#[111, 102, 102, 46]⟩ ++ S1 ++ ⟨#[46]⟩ ++ S2 = bytes (txt T (k + 1))) := hide (by
            rw [← EE0.out]
            simp only [bytes, ByteArray.append_assoc]
            try rfl)
          have hx : S.size ≤ 22801 := by omega
          go_wp2_with fail
          generalize wr.alloc (.cells #[.int .i64 z3, .int .i64 z4, .int .i64 z5, .int .i64 z6, .int .i64 z7] 30) = W1 at *
          have NE : Nonempty (BelowOf W1) := ⟨⟨W1, Below.refl _ _⟩⟩

          have q1 : ∀ p : BelowOf W1, p.world.cell? ⟨(a.add (k * 8)).block, (a.add (k * 8)).off + 1, none⟩ = some (.int .i64 z1) := fun p => (p.below.cell (p := ⟨(a.add (k * 8)).block, (a.add (k * 8)).off + 1, none⟩) (Nat.lt_trans ha' hbs)).trans f1
          have q2 : ∀ p : BelowOf W1, p.world.cell? ⟨(a.add (k * 8)).block, (a.add (k * 8)).off + 2, none⟩ = some (.int .i64 z2) := fun p => (p.below.cell (p := ⟨(a.add (k * 8)).block, (a.add (k * 8)).off + 2, none⟩) (Nat.lt_trans ha' hbs)).trans f2
          have m0 : ¬ 9223372036854775807 < S.size + 4 := by omega
          have m1 : ¬ 9223372036854775807 < S.size + 4 + S1.size := by omega
          have m2 : ¬ 9223372036854775807 < S.size + 4 + S1.size + 1 := by omega
          have m3 : ¬ 9223372036854775807 < S.size + 4 + S1.size + 1 + S2.size := by omega
          clear f0 f1 f2 h0 h1 h2 h3 h4 h5 h6 h7 b1 bk
          refine wp_region_quiet_below (by kernel_rfl) (by kernel_rfl) ?_
          repeat (go_big_quiet_step (first
            | (go_at_call_of 10 (Value.int .i64 z1); refine calls_below (N1.out _))
            | (go_at_call_of 10 (Value.int .i64 z2); refine calls_below (N2.out _))))

          refine wpQuiet_nil ?_
          rintro Wq ⟨⟨_, hq⟩, rfl⟩
          have HQ := hide (HB1.out.trans (hq.mono HB1.out.size))
          clear hq
          go_wp2_with fail
          go_roundw
          case rel => exact ⟨k + 1, _, by omega, by first | trivial | go_num, rfl, EE, HQ⟩
          case measure => simp [intOf]; omega
    · obtain rfl : k = n := by omega
      have hltI : ¬ (k : Int) < (k : Int) := by omega
      have e : S = bytes (txt T k) := HS.out
      have hne : (S.toList == []) = false := by
        rw [e, ByteArray.toList_eq]
        have := txt_pos (T := T) h0
        simpa [bytes] using this
      rw [e] at hne ⊢
      go_wp2_with fail
      go_ret
      exact ⟨rfl, HB.out⟩
set_option maxRecDepth 100000 in
theorem text_a0 (A : Option Addr) (c : Nat) (w : World) : Calls Tryd.prog 4 #[.slice A 0 c] w fun e w' => e = .returned (.string ⟨#[45]⟩) ∧ w = w' := by
  go_enter Tryd.func4, Tryd.ntmps4
  go_wp2_with fail
  go_ret
  exact ⟨rfl, rfl⟩
set_option maxRecDepth 100000 in
theorem text_b0 (A : Option Addr) (c : Nat) (w : World) : Calls Tryd.prog 5 #[.slice A 0 c] w fun e w' => e = .returned (.string ⟨#[45]⟩) ∧ w = w' := by
  go_enter Tryd.func5, Tryd.ntmps5
  go_wp2_with fail
  go_loopw [3, 4] (fun vs vi wr => vi = .int .i64 0 ∧ vs = .string ⟨#[]⟩ ∧ w = wr) (fun _ _ _ => 0)
  case atStart => exact ⟨rfl, rfl, rfl⟩
  case round =>
    obtain ⟨rfl, rfl, rfl⟩ := hrel
    have hne : ((⟨#[]⟩ : ByteArray).toList == []) = true := by rw [ByteArray.toList_eq]; rfl
    go_wp2_with fail
    go_ret
    exact ⟨rfl, rfl⟩
theorem Pow.of_laid {W : World} (h : laidMetH Tryd.prog [("math/bits.deBruijn32tab", Rows.laid_math_bits_deBruijn32tab), ("math/bits.deBruijn64tab", Rows.laid_math_bits_deBruijn64tab), ("internal/strconv.uint64pow10", Rows.laid_internal_strconv_uint64pow10)] W) : Pow W := by
  have h' : laidMet Tryd.prog [("math/bits.deBruijn32tab", Rows.laid_math_bits_deBruijn32tab), ("math/bits.deBruijn64tab", Rows.laid_math_bits_deBruijn64tab), ("internal/strconv.uint64pow10", Rows.laid_internal_strconv_uint64pow10)] W := h
  clear h
  obtain ⟨ps, ⟨_, _, _, _, _, _, _, _, _, _, ⟨_, _, _, _, _, _, _, _, _, _, ⟨g', t', cs, fuel, p, q, hg', ht', hvar, hd, _, _⟩, _⟩, _⟩, _⟩ := h'
  have hg : Tryd.prog.globalNamed "internal/strconv.uint64pow10" = some 0 := by kernel_rfl
  have hty : (Tryd.prog.globals[0]?).map (·.type) = some 54 := by kernel_rfl
  obtain rfl := Option.some.inj (hg.symm.trans hg')
  obtain rfl := Option.some.inj (hty.symm.trans ht')
  have hc := Lib.cells_of_tab (k := .u64) (zs := Lib.pow10Tab) Tryd.underlying54 Tryd.underlying47 (by kernel_rfl) (by kernel_rfl) hd
  have ht : Lib.TabIs Tryd.prog W "internal/strconv.uint64pow10" .u64 Lib.pow10Tab := by
    unfold Lib.TabIs
    rw [hvar, ← hc]
  refine ⟨ht, ?_⟩
  have h0 := ht.cell hg 0 (by decide)
  have := block_lt_of_cell h0
  exact Nat.lt_of_le_of_lt (Nat.zero_le _) this
set_option maxRecDepth 100000 in
set_option maxHeartbeats 2000000 in
theorem walk {H : Type} {enc : TypeId × Value → H} {base : Nat} (W : World) (hP : Pow W) (v0 : Value) (d0 : DataW H) (p0 : List MemPlace) (o0 : Value.okWide Tryd.prog W .any base 22 v0) (r0 : DataW.Trod enc Tryd.prog W 0 (fun _ => true) true 22 v0 d0 p0) :
    Calls Tryd.prog 3 #[v0] W fun e w' => e = .returned (.bool true) ∧ Below W.heap.size W w' := by
  obtain ⟨A0, n0, c0, rfl⟩ := okWide_slice Tryd.underlying22 o0
  obtain ⟨fuel, hf⟩ := r0
  obtain ⟨A, n, c, T, hv, hT⟩ := StRow.of (show DataW.trod enc Tryd.prog W 0 (fun _ => true) true fuel 22 [.slice A0 n0 c0] = some (d0, p0) by simpa [Value.cells] using hf)
  obtain ⟨rfl, rfl, rfl⟩ : A0 = A ∧ n0 = n ∧ c0 = c := by simpa using hv
  clear hv hf o0
  have hm := hT.1
  unfold maxLen at hm
  have HT := hide hT
  have HP := hide hP
  clear hT hP
  by_cases h200 : (200 : Int) < (n0 : Int)
  · go_enter Tryd.func3, Tryd.ntmps3
    go_wp2_with fail
    go_ret
    exact ⟨rfl, Below.refl _ _⟩
  have h2 : n0 ≤ 200 := by omega
  by_cases h0 : 0 < n0
  · have CA := hide (fun w h hp => text_a A0 n0 c0 T w h h2 h0 hp)
    have CB := hide (fun w h => text_b A0 n0 c0 T w h h2 h0)
    generalize bytes (txt T n0) = S at *
    have ee : (S.toList == S.toList) = true := by simp
    go_enter Tryd.func3, Tryd.ntmps3
    go_wp2_with fail
    refine (CA.out W HT.out HP.out).mono ?_
    rintro e w1 ⟨rfl, b1⟩
    have B1 := hide b1
    clear b1
    go_wp2_with fail
    refine (CB.out w1 (HT.out.below B1.out)).mono ?_
    rintro e w2 ⟨rfl, b2⟩
    have B2 := hide (B1.out.trans (b2.mono B1.out.size))
    clear b2
    go_wp2_with fail
    go_ret
    exact ⟨rfl, B2.out⟩
  · obtain rfl : n0 = 0 := by omega
    go_enter Tryd.func3, Tryd.ntmps3
    go_wp2_with fail
    refine (text_a0 A0 c0 W).mono ?_
    rintro e w1 ⟨rfl, rfl⟩
    go_wp2_with fail
    refine (text_b0 A0 c0 W).mono ?_
    rintro e w2 ⟨rfl, rfl⟩
    go_wp2_with fail
    go_ret
    exact ⟨rfl, Below.refl _ _⟩
end Go.Proofs.YtkanpolipegafabDoor.PathTextsW
