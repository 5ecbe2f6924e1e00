/- The text of steps. -/
import Derived.Test.YtiojpokfcejhcaaDoorRows
import Derived.Test.YtiojpokfcejhcaaDoorPathTa
import Derived.Test.YtiojpokfcejhcaaDoorBuilder
import Derived.Test.YtiojpokfcejhcaaDoorQuietBelow
import Derived.Deep.RegionWith
namespace Go.Proofs.YtiojpokfcejhcaaDoor.PathTextsW
open Go.Joins Go.ChangeShapes Go.WideShapes Go.RowKit Go.Deep Go.Proofs.YtiojpokfcejhcaaDoor
open Go.Lib (itoa itoa_length_le)
set_option linter.unusedVariables false
set_option linter.unusedSimpArgs false
def StAt (w : World) (a : Addr) (i : Nat) (t : St) : Prop :=
  w.cell? (a.add (i * 8)) = some (.bool t.o) ∧ w.cell? ⟨(a.add (i * 8)).block, (a.add (i * 8)).off + 1, none⟩ = some (.int .i64 t.r) ∧ w.cell? ⟨(a.add (i * 8)).block, (a.add (i * 8)).off + 2, none⟩ = some (.int .i64 t.c) ∧
    w.cell? ⟨(a.add (i * 8)).block, (a.add (i * 8)).off + 3, none⟩ = some (.int .i64 t.a) ∧ w.cell? ⟨(a.add (i * 8)).block, (a.add (i * 8)).off + 4, none⟩ = some (.int .i64 t.b) ∧ w.cell? ⟨(a.add (i * 8)).block, (a.add (i * 8)).off + 5, none⟩ = some (.int .i64 t.d) ∧
    w.cell? ⟨(a.add (i * 8)).block, (a.add (i * 8)).off + 6, none⟩ = some (.int .i64 t.e) ∧ w.cell? ⟨(a.add (i * 8)).block, (a.add (i * 8)).off + 7, none⟩ = some (.int .i64 t.f)
def StRow (w : World) (A : Option Addr) (n : Nat) (T : Nat → St) : Prop :=
  n ≤ maxLen ∧ ((n = 0) ∨ ∃ a, A = some a ∧ a.block < w.heap.size ∧ ∀ i, i < n → (T i).ok ∧ StAt w a i (T i))
theorem StAt.keep {w w' : World} {a : Addr} {i : Nat} {t : St} (hk : ∀ p : Addr, p.block < w.heap.size → w'.cell? p = w.cell? p) (ha : a.block < w.heap.size) (h : StAt w a i t) : StAt w' a i t := by
  have e : (a.add (i * 8)).block < w.heap.size := by rw [block_of_add]; exact ha
  obtain ⟨h0, h1, h2, h3, h4, h5, h6, h7⟩ := h
  have k : ∀ j, w'.cell? ⟨(a.add (i * 8)).block, (a.add (i * 8)).off + j, none⟩ = w.cell? ⟨(a.add (i * 8)).block, (a.add (i * 8)).off + j, none⟩ := fun j => hk ⟨(a.add (i * 8)).block, (a.add (i * 8)).off + j, none⟩ e
  exact ⟨(hk _ e).trans h0, (k 1).trans h1, (k 2).trans h2, (k 3).trans h3, (k 4).trans h4, (k 5).trans h5, (k 6).trans h6, (k 7).trans h7⟩
theorem StRow.below {w w' : World} {A : Option Addr} {n : Nat} {T : Nat → St} (h : StRow w A n T) (hb : Below w.heap.size w w') : StRow w' A n T := by
  rcases h with ⟨hn, rfl | ⟨a, rfl, ha, h⟩⟩
  · exact ⟨hn, .inl rfl⟩
  · exact ⟨hn, .inr ⟨a, rfl, Nat.lt_of_lt_of_le ha hb.size, fun i hi => ⟨(h i hi).1, (h i hi).2.keep (fun p hp => hb.cell hp) ha⟩⟩⟩
theorem StRow.at_ {w : World} {A : Option Addr} {n : Nat} {T : Nat → St} (h : StRow w A n T) {i : Nat} (hi : i < n) : ∃ a, A = some a ∧ a.block < w.heap.size ∧ (T i).ok ∧ StAt w a i (T i) := by
  rcases h with ⟨_, rfl | ⟨a, rfl, ha, h⟩⟩
  · omega
  · exact ⟨a, rfl, ha, h i hi⟩
def txt (T : Nat → St) : Nat → List UInt8
  | 0 => []
  | i + 1 => (txt T i ++ (if i = 0 then [] else [32])) ++ stT (T i)
theorem stT_len (t : St) (h : t.ok) : (stT t).length ≤ 113 := by
  obtain ⟨k1, k2, k3, k4, k5, k6, k7⟩ := h
  unfold stT
  split
  · have := dot_len [t.r, t.c] (by intro z hz; simp at hz; rcases hz with rfl | rfl <;> assumption)
    simp at this ⊢
    omega
  · have := dot_len [t.a, t.b, t.f, t.d, t.e] (by intro z hz; simp at hz; rcases hz with rfl | rfl | rfl | rfl | rfl <;> assumption)
    simp at this ⊢
    omega
theorem stT_pos (t : St) : stT t ≠ [] := by
  unfold stT
  split
  · simp
  · intro h
    have := congrArg List.length h
    simp [dot] at this
theorem txt_le (T : Nat → St) (n : Nat) (h : ∀ i, i < n → (T i).ok) : (txt T n).length ≤ n * 114 := by
  induction n with
  | zero => simp [txt]
  | succ n ih =>
    have h1 := ih fun i hi => h i (by omega)
    have h2 := stT_len _ (h n (by omega))
    unfold txt
    by_cases h0 : n = 0
    · subst h0
      simp [txt] at h2 ⊢
      omega
    · simp [h0] at h2 ⊢
      omega
theorem own_below' {w w' : World} {B size n : Nat} {e : TypeId} {v : Value} {xs : List Value} (h : w.ownsRow B e size v n xs) (hb : Below w.heap.size w w') : w'.ownsRow B e size v n xs := by
  refine ⟨h.1, h.2.imp id ?_⟩
  rintro ⟨g, cap, cur, rfl, hge, hh, r⟩
  exact ⟨g, cap, cur, rfl, hge, (hb.block g (Array.getElem?_eq_some_iff.1 hh).1).trans hh, r⟩
theorem isB_below {T e : TypeId} {B b : Nat} {bs : List Value} {w w' : World} (h : Lib.IsBuilder T e B b bs w) (hbl : Below w.heap.size w w') : Lib.IsBuilder T e B b bs w' := by
  have hlt := isB_lt h
  rcases h with ⟨hB, v, hb, hown, hne⟩ | ⟨hB, v, hb, hown, hne⟩
  · exact .inl ⟨hB, v, (hbl.block b hlt).trans hb, own_below' hown hbl, hne⟩
  · exact .inr ⟨hB, v, (hbl.block b hlt).trans hb, own_below' hown hbl, hne⟩
theorem byteCells_bytes (l x : List UInt8) : Lib.byteCells l ++ Lib.strCells (bytes x) = Lib.byteCells (l ++ x) := by simp [Lib.byteCells, Lib.strCells, bytes]
set_option maxRecDepth 100000 in
set_option maxHeartbeats 4000000 in
theorem text_a (A : Option Addr) (n c : Nat) (T : Nat → St) (w : World) (h : StRow w A n T) (hn : n ≤ 200) (h0 : 0 < n) (hp : Pow w) :
    Calls Tryd.prog 18 #[.slice A n c] w fun e w' => e = .returned (.string (bytes (txt T n))) ∧ Below w.heap.size w w' := by
  have H := hide h
  have HP := hide hp
  have hn0 : ((n : Int) == 0) = false := by
    have : ¬ (n : Int) = 0 := by omega
    simpa using this
  clear h hp
  go_enter Tryd.func18, Tryd.ntmps18
  go_wp2_with fail
  go_loopw [11] (fun i wr => ∃ k : Nat, k ≤ n ∧ i = .int .i64 k ∧ Lib.IsBuilder 65 5 w.heap.size w.heap.size (Lib.byteCells (txt T k)) wr ∧ Below w.heap.size w wr) (fun i _ => n - (intOf i).toNat)
  case atStart => exact ⟨0, by omega, rfl, Lib.fresh_isBuilder _ _ w, (Below.refl _ _).alloc (Nat.le_refl _) _⟩
  case round =>
    obtain ⟨k, hk, rfl, hI, hB⟩ := hrel
    have hsz := hB.size
    have HI := hide hI
    have HB := hide hB
    by_cases hlt : k < n
    · obtain ⟨a, rfl, ha, hok, h0, h1, h2, h3, h4, h5, h6, h7⟩ := (H.out.below hB).at_ hlt
      have hl := txt_le T k fun i hi => by obtain ⟨_, _, _, h, _⟩ := H.out.at_ (show i < n by omega); exact h
      have hl2 : (txt T k).length ≤ 22800 := by omega
      have hs2 : (bytes (stT (T k))).size ≤ 113 := by rw [bytes_size]; exact stT_len _ hok
      have hbl := isB_lt hI
      have hltI : (k : Int) < (n : Int) := by omega
      have TS := hide (fun w' hp => text_st (T k) w' hok hp)
      have hsb : wr.heap.size ≠ w.heap.size := by omega
      have E0 : Hid (k = 0 → Lib.byteCells (txt T k) ++ Lib.strCells (bytes (stT (T k))) = Lib.byteCells (txt T (k + 1))) := hide fun h => by
        subst h
        rw [byteCells_bytes]; simp [txt]
      have E1 : Hid (k ≠ 0 → Lib.byteCells (txt T k) ++ [.int .u8 32] ++ Lib.strCells (bytes (stT (T k))) = Lib.byteCells (txt T (k + 1))) := hide fun h => by
        have : (Lib.byteCells (txt T k) ++ [.int .u8 32] : List Value) = Lib.byteCells (txt T k ++ [32]) := by simp [Lib.byteCells]
        rw [this, byteCells_bytes]; simp [txt, h]
      clear hI hB hok
      generalize bytes (stT (T k)) = S at *
      generalize T k = tk at *
      obtain ⟨o, r, c, a', b, d, e, f⟩ := tk
      simp only at h0 h1 h2 h3 h4 h5 h6 h7 TS
      by_cases hz : (0 : Int) < (k : Int)
      · have hpos : k ≠ 0 := by omega
        go_wp2_with fail
        refine (write_byte w.heap.size w.heap.size (Lib.byteCells (txt T k)) 32 _ (isB_alloc HI.out _) (by simp only [Lib.byteCells_length]; omega) (by simp; omega)).mono ?_
        rintro e w1 ⟨rfl, i1, b1, k1⟩
        have hblk := k1 wr.heap.size _ (heap_alloc_new wr _) (by simpa using hsb) (by intro c fz; simp)
        have q : ∀ j v, (#[.bool o, .int .i64 r, .int .i64 c, .int .i64 a', .int .i64 b, .int .i64 d, .int .i64 e, .int .i64 f] : Array Value)[j]? = some v → w1.cell? ⟨wr.heap.size, j, none⟩ = some v := fun j v hj => by rw [Lib.cell_of_heap hblk]; exact hj
        have q0 := q 0 _ rfl
        have q1 := q 1 _ rfl
        have q2 := q 2 _ rfl
        have q3 := q 3 _ rfl
        have q4 := q 4 _ rfl
        have q5 := q 5 _ rfl
        have q6 := q 6 _ rfl
        have q7 := q 7 _ rfl
        have hs1 := b1.size
        have I1 := hide i1
        have B1 := hide b1
        clear i1 b1 k1 hblk q
        go_wp2_with fail
        refine (TS.out w1 (HP.out.below (HB.out.trans (((Below.refl _ wr).alloc (Nat.le_refl _) _).mono hsz |>.trans B1.out)) (Nat.le_refl _))).mono ?_
        rintro e w2 ⟨rfl, hb2⟩
        have I2 := hide (isB_below (.inr I1.out) hb2)
        have hs2' := hb2.size
        have B2 := hide (B1.out.trans (hb2.mono (by simp at hs1; omega)))
        clear hb2
        go_wp2_with fail
        refine (write_string w.heap.size w.heap.size _ S _ I2.out (by simp only [List.length_append, Lib.byteCells_length, List.length_singleton]; omega) (by simp at hs1; omega)).mono ?_
        rintro e w3 ⟨rfl, i3, b3, k3⟩
        rw [E1.out hpos] at i3
        have I3 := hide i3
        have B3 := hide ((HB.out.alloc hsz _).trans (B2.out.trans b3))
        clear i3 b3 k3 hs1
        go_wp2_with fail
        go_roundw
        case rel => exact ⟨k + 1, by omega, by go_num, .inr I3.out, B3.out⟩
        case measure => simp [intOf]; omega
      · have hz2 : decide ((0 : Int) < (k : Int)) = false := by simpa using hz
        have HK := hide (show k = 0 by omega)
        have b1 := (Below.refl wr.heap.size wr).alloc (Nat.le_refl _) (.cells #[.bool o, .int .i64 r, .int .i64 c, .int .i64 a', .int .i64 b, .int .i64 d, .int .i64 e, .int .i64 f] 49)
        have B1 := hide b1
        have I1 := hide (isB_below HI.out b1)
        clear b1
        go_wp2_with fail
        refine (TS.out _ (HP.out.below (HB.out.trans (B1.out.mono hsz)) (Nat.le_refl _))).mono ?_
        rintro e w2 ⟨rfl, hb2⟩
        have I2 := hide (isB_below I1.out hb2)
        have B2 := hide (HB.out.trans ((B1.out.trans (hb2.mono B1.out.size)).mono hsz))
        clear hb2
        go_wp2_with fail
        refine (write_string w.heap.size w.heap.size _ S _ I2.out (by simp only [Lib.byteCells_length]; omega) B2.out.size).mono ?_
        rintro e w3 ⟨rfl, i3, b3, k3⟩
        rw [E0.out HK.out] at i3
        have I3 := hide i3
        have B3 := hide (B2.out.trans b3)
        clear i3 b3 k3
        go_wp2_with fail
        go_roundw
        case rel => exact ⟨k + 1, by omega, by go_num, .inr I3.out, B3.out⟩
        case measure => simp [intOf]; omega
    · obtain rfl : k = n := by omega
      clear hI hB
      have hltI : ¬ (k : Int) < (k : Int) := by omega
      go_wp2_with fail
      refine (Tryd.Builder_String_any _ _ _ _ HI.out hsz).mono ?_
      rintro e w' ⟨rfl, hb⟩
      go_wp2_with fail
      go_ret
      exact ⟨rfl, HB.out.trans hb⟩
set_option maxRecDepth 100000 in
theorem text_a0 (A : Option Addr) (c : Nat) (w : World) : Calls Tryd.prog 18 #[.slice A 0 c] w fun e w' => e = .returned (.string ⟨#[45]⟩) ∧ w = w' := by
  go_enter Tryd.func18, Tryd.ntmps18
  go_wp2_with fail
  go_ret
  exact ⟨rfl, rfl⟩
theorem Pow.of_laid {W : World} (h : laidMetH Tryd.prog [("math/bits.deBruijn32tab", Rows.laid_math_bits_deBruijn32tab), ("math/bits.deBruijn64tab", Rows.laid_math_bits_deBruijn64tab), ("internal/strconv.uint64pow10", Rows.laid_internal_strconv_uint64pow10)] W) : Pow W := by
  have h' : laidMet Tryd.prog [("math/bits.deBruijn32tab", Rows.laid_math_bits_deBruijn32tab), ("math/bits.deBruijn64tab", Rows.laid_math_bits_deBruijn64tab), ("internal/strconv.uint64pow10", Rows.laid_internal_strconv_uint64pow10)] W := h
  clear h
  obtain ⟨ps, ⟨_, _, _, _, _, _, _, _, _, _, ⟨_, _, _, _, _, _, _, _, _, _, ⟨g', t', cs, fuel, p, q, hg', ht', hvar, hd, _, _⟩, _⟩, _⟩, _⟩ := h'
  have hg : Tryd.prog.globalNamed "internal/strconv.uint64pow10" = some 0 := by kernel_rfl
  have hty : (Tryd.prog.globals[0]?).map (·.type) = some 87 := by kernel_rfl
  obtain rfl := Option.some.inj (hg.symm.trans hg')
  obtain rfl := Option.some.inj (hty.symm.trans ht')
  have hc := Lib.cells_of_tab (k := .u64) (zs := Lib.pow10Tab) Tryd.underlying87 Tryd.underlying55 (by kernel_rfl) (by kernel_rfl) hd
  have ht : Lib.TabIs Tryd.prog W "internal/strconv.uint64pow10" .u64 Lib.pow10Tab := by
    unfold Lib.TabIs
    rw [hvar, ← hc]
  refine ⟨ht, ?_⟩
  have h0 := ht.cell hg 0 (by decide)
  have := block_lt_of_cell h0
  exact Nat.lt_of_le_of_lt (Nat.zero_le _) this
end Go.Proofs.YtiojpokfcejhcaaDoor.PathTextsW
