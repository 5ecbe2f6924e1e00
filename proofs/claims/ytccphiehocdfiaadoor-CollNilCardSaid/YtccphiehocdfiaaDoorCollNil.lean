/- The walk of the statement CollNil: of any act; without conditions. -/
import Derived.Test.YtccphiehocdfiaaDoorRows
import Derived.Test.YtccphiehocdfiaaDoorStructs
import Derived.Test.YtccphiehocdfiaaDoorQuietBelow
import Derived.Laws.Cover3
namespace Go.Proofs.YtccphiehocdfiaaDoor.CollNilW
open Go.Joins Go.ChangeShapes Go.WideShapes Go.RowKit Go.Deep Go.Proofs.YtccphiehocdfiaaDoor
set_option linter.unusedVariables false
set_option linter.unusedSimpArgs false
/-- Calls together that nobody made: nil, or without rows. -/
def NM (w : World) (t : Option Addr) : Prop := t = none ∨ ∃ g, t = some ⟨g, 0, none⟩ ∧ g < w.heap.size ∧ w.cell? ⟨g, 1, none⟩ = some (.map none)
theorem NM.below {w w' : World} {t : Option Addr} (h : NM w t) (hb : Below w.heap.size w w') : NM w' t := by
  rcases h with rfl | ⟨g, rfl, hg, hc⟩
  · exact .inl rfl
  · exact .inr ⟨g, rfl, Nat.lt_of_lt_of_le hg hb.size, (hb.cell (p := ⟨g, 1, none⟩) hg).trans hc⟩
theorem NM.alloc {w : World} {t : Option Addr} (h : NM w t) (o : Obj) : NM (w.alloc o) t := h.below ((Below.refl _ _).alloc (Nat.le_refl _) o)
theorem bel1 {w w' : World} (o : Obj) (h : Below (w.alloc o).heap.size (w.alloc o) w') : Below w.heap.size w w' := ((Below.refl _ w).alloc (Nat.le_refl _) o).trans (h.mono (by simp))
set_option maxRecDepth 100000 in
theorem made_no (t : Option Addr) (w : World) (h : NM w t) : Calls Tryd.prog 23 #[.pointer t] w fun e w' => e = .returned (.bool false) ∧ w = w' := by
  have hu : ∀ w, (binOp BinOp.neq 32 (Value.map none) (Value.map none)).run Tryd.prog w = .ok (.bool false) w := fun w => run_neq_map_nil w _ _ _ none Tryd.underlying32
  rcases h with rfl | ⟨g, rfl, hg, hc⟩
  all_goals
    go_enter Tryd.func23, Tryd.ntmps23
    go_wp2
    go_ret
    exact ⟨rfl, rfl⟩
set_option maxRecDepth 100000 in
theorem find_no (t : Option Addr) (k r : Value) (w : World) (h : NM w t) : Calls Tryd.prog 30 #[.pointer t, k, r] w fun e w' => e = .returned (.tuple #[.pointer none, .int .i64 0]) ∧ w = w' := by
  have H := hide h
  clear h
  go_enter Tryd.func30, Tryd.ntmps30
  go_wp2_with (go_at_call 23; refine (made_no _ _ H.out).mono ?_; rintro e w' ⟨rfl, rfl⟩)
  go_ret2
  exact ⟨rfl, rfl⟩
set_option maxRecDepth 100000 in
theorem many_no (t : Option Addr) (k r : Value) (w : World) (h : NM w t) : Calls Tryd.prog 10 #[.pointer t, k, r] w fun e w' => e = .returned (.int .i64 0) ∧ w = w' := by
  have H := hide h
  clear h
  go_enter Tryd.func10, Tryd.ntmps10
  go_wp2_with (go_at_call 30; refine (find_no _ _ _ _ H.out).mono ?_; rintro e w' ⟨rfl, rfl⟩)
  go_ret
  exact ⟨rfl, rfl⟩
set_option maxRecDepth 100000 in
theorem over_no (t : Option Addr) (k r i : Value) (w : World) (h : NM w t) : Calls Tryd.prog 9 #[.pointer t, k, r, i] w fun e w' => e = .returned (.bool false) ∧ w = w' := by
  have H := hide h
  clear h
  go_enter Tryd.func9, Tryd.ntmps9
  go_wp2_with (go_at_call 30; refine (find_no _ _ _ _ H.out).mono ?_; rintro e w' ⟨rfl, rfl⟩)
  go_ret
  exact ⟨rfl, rfl⟩
set_option maxRecDepth 100000 in
theorem odd_no (t : Option Addr)  (w : World) (h : NM w t) : Calls Tryd.prog 11 #[.pointer t] w fun e w' => e = .returned (.slice none 0 0) ∧ w = w' := by
  have H := hide h
  clear h
  go_enter Tryd.func11, Tryd.ntmps11
  go_wp2_with (go_at_call 23; refine (made_no _ _ H.out).mono ?_; rintro e w' ⟨rfl, rfl⟩)
  go_ret
  exact ⟨rfl, rfl⟩
set_option maxRecDepth 100000 in
theorem copy_no (t : Option Addr)  (w : World) (h : NM w t) : Calls Tryd.prog 12 #[.pointer t] w fun e w' => e = .returned (.pointer none) ∧ w = w' := by
  have H := hide h
  clear h
  go_enter Tryd.func12, Tryd.ntmps12
  go_wp2_with (go_at_call 23; refine (made_no _ _ H.out).mono ?_; rintro e w' ⟨rfl, rfl⟩)
  go_ret
  exact ⟨rfl, rfl⟩
set_option maxRecDepth 100000 in
theorem bring_no (t : Option Addr) (c2 c3 c4 c5 c6 c7 c8 c9 : Value) (key : ByteArray) (A : Option Addr) (n c : Nat) (r : Value) (w : World) (h : NM w t) : Calls Tryd.prog 6 #[.pointer t, .agg #[.string key, .slice A n c], r, .agg #[c3, c4, c5, c6, c7, c8]] w fun e w' => e = .returned (.tuple #[.int .i64 0, .int .i64 1]) ∧ Below w.heap.size w w' := by
  have H := hide ((h.alloc (.cells #[.string key, .slice A n c] 24)).alloc (.cells #[c3, c4, c5, c6, c7, c8] 26))
  clear h
  go_enter Tryd.func6, Tryd.ntmps6
  go_wp2_with (go_at_call 23; refine (made_no _ _ H.out).mono ?_; rintro e w' ⟨rfl, rfl⟩)
  go_ret2
  exact ⟨rfl, (((Below.refl _ _).alloc (Nat.le_refl _) _).alloc (by simp) _)⟩
set_option maxRecDepth 100000 in
theorem told_no (t : Option Addr) (k r i : Value) (w : World) (h : NM w t) : Calls Tryd.prog 7 #[.pointer t, k, r, i] w fun e w' => e = .returned (.tuple #[.agg #[.int .i64 0, .slice none 0 0, .string ⟨#[]⟩, .slice none 0 0, .bool false], .bool false]) ∧ Below w.heap.size w w' := by
  have H := hide (h.alloc (.cells #[.int .i64 0, .slice none 0 0, .string ⟨#[]⟩, .slice none 0 0, .bool false] 41))
  clear h
  go_enter Tryd.func7, Tryd.ntmps7
  go_wp2_with (go_at_call 9; refine (over_no _ _ _ _ _ H.out).mono ?_; rintro e w' ⟨rfl, rfl⟩)
  exact bodyPost_ret (v := .tuple #[.agg #[.int .i64 0, .slice none 0 0, .string ⟨#[]⟩, .slice none 0 0, .bool false], .bool false]) (by simp [results, Tryd.results7, go_sem]) rfl ⟨rfl, (Below.refl _ _).alloc (Nat.le_refl _) _⟩
set_option maxRecDepth 100000 in
theorem ints_nil (w : World) : Calls Tryd.prog 61 #[.slice none 0 0, .slice none 0 0] w fun e w' => e = .returned (.bool true) ∧ w = w' := by
  go_enter Tryd.func61, Tryd.ntmps61
  go_wp2_with fail
  go_loop [5] (fun i => i = .int .i64 0) (fun _ => 0)
  case atStart => rfl
  case round =>
    obtain rfl := hrel
    go_wp2_with fail
    go_ret
    exact ⟨rfl, rfl⟩
set_option maxRecDepth 100000 in
theorem gsame_nil (w : World) : Calls Tryd.prog 32 #[.agg #[.string ⟨#[]⟩, .slice none 0 0], .agg #[.string ⟨#[]⟩, .slice none 0 0]] w fun e w' => e = .returned (.bool true) ∧ Below w.heap.size w w' := by
  go_enter Tryd.func32, Tryd.ntmps32
  go_wp2_with (go_at_call 61; refine (ints_nil _).mono ?_; rintro e w' ⟨rfl, rfl⟩)
  go_ret
  exact ⟨by simp, ((Below.refl _ _).alloc (Nat.le_refl _) _).alloc (by simp) _⟩
theorem bcell {W w1 : World} (hb : Below W.heap.size W w1) : (∀ b o, b < W.heap.size → w1.cell? ⟨b, o, none⟩ = W.cell? ⟨b, o, none⟩) ∧ (∀ b o, b < W.heap.size → w1.frozen? ⟨b, o, none⟩ = W.frozen? ⟨b, o, none⟩) :=
  ⟨fun b o h => hb.cell (p := ⟨b, o, none⟩) h, fun b o h => hb.frozen (p := ⟨b, o, none⟩) h⟩
set_option maxRecDepth 100000 in
theorem same_nil (w : World) : Calls Tryd.prog 8 #[.agg #[.int .i64 0, .slice none 0 0, .string ⟨#[]⟩, .slice none 0 0, .bool false], .agg #[.int .i64 0, .slice none 0 0, .string ⟨#[]⟩, .slice none 0 0, .bool false]] w fun e w' => e = .returned (.bool true) ∧ Below w.heap.size w w' := by
  go_enter Tryd.func8, Tryd.ntmps8
  go_wp2_with fail
  refine (gsame_nil _).mono ?_
  rintro e w1 ⟨rfl, hb⟩
  have HB := hide ((((Below.refl _ w).alloc (Nat.le_refl _) (.cells #[.int .i64 0, .slice none 0 0, .string ⟨#[]⟩, .slice none 0 0, .bool false] 41)).alloc (by simp) (.cells #[.int .i64 0, .slice none 0 0, .string ⟨#[]⟩, .slice none 0 0, .bool false] 41)).trans (hb.mono (by simp; omega)))
  obtain ⟨hc, hf⟩ := bcell hb
  have q : w1.cell? ⟨w.heap.size, 1, none⟩ = some (.slice none 0 0) := (hc _ _ (by simp; omega)).trans (by rw [World.cell?_alloc_past _ _ _ (by simp), World.cell?_alloc_at _ _ _ _ rfl]; rfl)
  have r : w1.cell? ⟨w.heap.size + 1, 1, none⟩ = some (.slice none 0 0) := (hc _ _ (by simp)).trans (by rw [World.cell?_alloc_at _ _ _ _ (by simp)]; rfl)
  clear hc hf hb
  go_wp2_with fail
  go_loop [5] (fun i => i = .int .i64 0) (fun _ => 0)
  case atStart => rfl
  case round =>
    obtain rfl := hrel
    go_wp2_with fail
    go_ret
    exact ⟨rfl, HB.out⟩
def gB (key : ByteArray) (n : Nat) : Bool := decide (80 < n) || decide (200 < key.size)
set_option maxRecDepth 100000 in
theorem great11 (key : ByteArray) (A : Option Addr) (n c : Nat) (w : World) : Calls Tryd.prog 22 #[.agg #[.string key, .slice A n c]] w fun e w' => e = .returned (.bool (gB key n)) ∧ Below w.heap.size w w' := by
  by_cases h1 : 80 < n
  · have h1' : (80 : Int) < (n : Int) := by omega
    have E : Hid (gB key n = true) := hide (by simp [gB, h1])
    clear h1
    go_enter Tryd.func22, Tryd.ntmps22
    go_wp2_with fail
    go_ret
    exact ⟨by rw [E.out]; rfl, (Below.refl _ _).alloc (Nat.le_refl _) _⟩
  · have h1' : ¬ (80 : Int) < (n : Int) := by omega
    by_cases h2 : 200 < key.size
    · have h2' : (200 : Int) < (key.size : Int) := by omega
      have E : Hid (gB key n = true) := hide (by simp [gB, h2])
      clear h1 h2
      go_enter Tryd.func22, Tryd.ntmps22
      go_wp2_with fail
      go_ret
      exact ⟨by rw [E.out]; rfl, (Below.refl _ _).alloc (Nat.le_refl _) _⟩
    · have h2' : ¬ (200 : Int) < (key.size : Int) := by omega
      have E : Hid (gB key n = false) := hide (by simp [gB]; omega)
      clear h1 h2
      go_enter Tryd.func22, Tryd.ntmps22
      go_wp2_with fail
      go_ret
      exact ⟨by rw [E.out]; rfl, (Below.refl _ _).alloc (Nat.le_refl _) _⟩
/-- Whether one act is too great. -/
def gA (key : ByteArray) (n : Nat) : Bool := gB key n || decide (8 < n)
set_option maxRecDepth 100000 in
set_option maxHeartbeats 1000000 in
theorem great1 (g : Nat) (key : ByteArray) (A : Option Addr) (n c : Nat) (w : World) (hg : g < w.heap.size) (h0 : w.cell? ⟨g, 0, none⟩ = some (.string key)) (h1 : w.cell? ⟨g, 1, none⟩ = some (.slice A n c)) :
    Calls Tryd.prog 5 #[.slice (some ⟨g, 0, none⟩) 1 1] w fun e w' => e = .returned (.bool (gA key n)) ∧ Below w.heap.size w w' := by
  by_cases hb1 : gB key n = true
  · have E : Hid (gA key n = true) := hide (by simp [gA, hb1])
    go_enter Tryd.func5, Tryd.ntmps5
    go_wp2_with fail
    go_loop [3] (fun i => i = .int .i64 0) (fun _ => 0)
    case atStart => rfl
    case round =>
      obtain rfl := hrel
      go_wp2_with fail
      refine (great11 key A n c _).mono ?_
      rintro e w1 ⟨rfl, hb⟩
      have HB := hide hb
      clear hb
      go_wp2_with fail
      go_ret
      exact ⟨by rw [E.out]; rfl, HB.out⟩
  · have hb1 : gB key n = false := by simpa using hb1
    by_cases h8 : 8 < n
    · have h8' : (8 : Int) < (n : Int) := by omega
      have E : Hid (gA key n = true) := hide (by simp [gA, h8])
      clear h8
      go_enter Tryd.func5, Tryd.ntmps5
      go_wp2_with fail
      go_loop [3] (fun i => i = .int .i64 0) (fun _ => 0)
      case atStart => rfl
      case round =>
        obtain rfl := hrel
        go_wp2_with fail
        refine (great11 key A n c _).mono ?_
        rintro e w1 ⟨rfl, hb⟩
        have HB := hide hb
        have k1 := (hb.cell (p := ⟨g, 1, none⟩) hg).trans h1
        clear hb
        go_wp2_with fail
        go_ret
        exact ⟨by rw [E.out]; rfl, HB.out⟩
    · have h8' : ¬ (8 : Int) < (n : Int) := by omega
      have E : Hid (gA key n = false) := hide (by simp [gA, hb1]; omega)
      clear h8
      have H0 := hide h0
      have H1 := hide h1
      clear h0 h1
      go_enter Tryd.func5, Tryd.ntmps5
      go_wp2_with fail
      go_loopw [3] (fun i wr => (i = .int .i64 0 ∨ i = .int .i64 1) ∧ Hid (Below w.heap.size w wr)) (fun i _ => 1 - (intOf i).toNat)
      case atStart => exact ⟨.inl rfl, hide (Below.refl _ _)⟩
      case round =>
        obtain ⟨hi, HB⟩ := hrel
        rcases hi with rfl | rfl
        · have k0 := (HB.out.cell (p := ⟨g, 0, none⟩) hg).trans H0.out
          have k1 := (HB.out.cell (p := ⟨g, 1, none⟩) hg).trans H1.out
          have hl := HB.out.size
          go_wp2_with fail
          refine (great11 key A n c _).mono ?_
          rintro e w1 ⟨rfl, hb⟩
          have HB1 := hide (HB.out.trans (hb.mono HB.out.size))
          clear hb k0 k1 HB
          have k1 := (HB1.out.cell (p := ⟨g, 1, none⟩) hg).trans H1.out
          go_wp2_with fail
          go_roundw
          case rel => exact ⟨.inr rfl, HB1⟩
          case measure => simp [intOf]
        · go_wp2_with fail
          go_ret
          exact ⟨by rw [E.out]; rfl, HB.out⟩
/-- What stands in the round. -/
structure Ok (W wr : World) (gs g2 : Nat) (cs : Array Value) : Prop where
  l0 : W.heap.size < wr.heap.size
  l1 : gs < wr.heap.size
  l2 : g2 < wr.heap.size
  a : ∀ i, wr.cell? ⟨W.heap.size, i, none⟩ = cs[i]?
  p0 : wr.cell? ⟨gs, 0, none⟩ = some (.pointer none)
  p1 : wr.cell? ⟨gs, 1, none⟩ = some (.pointer (some ⟨g2, 0, none⟩))
  k : wr.cell? ⟨g2, 1, none⟩ = some (.map none)
  b : Below W.heap.size W wr
theorem act_at (W : World) (cs : Array Value) (t : TypeId) (o : Obj) (i : Nat) : ((W.alloc (.cells cs t)).alloc o).cell? ⟨W.heap.size, i, none⟩ = cs[i]? := by
  rw [World.cell?_alloc_past _ _ _ (by simp), World.cell?_alloc_at _ _ _ _ rfl]
theorem act_new (W : World) (cs : Array Value) (t : TypeId) (o : Obj) (i : Nat) (v : Value) (h : cs[i]? = some v) : ((W.alloc o).alloc (.cells cs t)).cell? ⟨W.heap.size + 1, i, none⟩ = some v := by
  rw [World.cell?_alloc_at _ _ _ _ (by simp), h]
theorem Ok.below {W wr w' : World} {gs g2 : Nat} {cs : Array Value} (h : Ok W wr gs g2 cs) (hb : Below wr.heap.size wr w') : Ok W w' gs g2 cs :=
  ⟨Nat.lt_of_lt_of_le h.l0 hb.size, Nat.lt_of_lt_of_le h.l1 hb.size, Nat.lt_of_lt_of_le h.l2 hb.size, fun i => (hb.cell (p := ⟨_, i, none⟩) h.l0).trans (h.a i), (hb.cell (p := ⟨_, _, none⟩) h.l1).trans h.p0,
    (hb.cell (p := ⟨_, _, none⟩) h.l1).trans h.p1, (hb.cell (p := ⟨_, _, none⟩) h.l2).trans h.k, h.b.trans (hb.mono h.b.size)⟩
theorem Ok.nm {W wr : World} {gs g2 : Nat} {cs : Array Value} (h : Ok W wr gs g2 cs) (k : Nat) (hk : k < 2) : ∃ t, wr.cell? ⟨gs, k, none⟩ = some (.pointer t) ∧ NM wr t := by
  rcases Nat.lt_or_ge k 1 with h1 | h1
  · obtain rfl : k = 0 := by omega
    exact ⟨_, h.p0, .inl rfl⟩
  · obtain rfl : k = 1 := by omega
    exact ⟨_, h.p1, .inr ⟨g2, rfl, h.l2, h.k⟩⟩
theorem actSize : (Tryd.prog.info? 28).map (·.size) = some 10 := by kernel_rfl
set_option maxRecDepth 100000 in
set_option maxHeartbeats 4000000 in
theorem law_any (c2 c3 c4 c5 c6 c7 c8 c9 : Value) (key : ByteArray) (A : Option Addr) (n c : Nat) (W : World) :
    Calls Tryd.prog 3 #[.agg #[.string key, .slice A n c, c2, c3, c4, c5, c6, c7, c8, c9]] W fun e w' => e = .returned (.bool true) ∧ Below W.heap.size W w' := by
  have hB0 : Below W.heap.size W ((W.alloc (.cells #[.string key, .slice A n c, c2, c3, c4, c5, c6, c7, c8, c9] 28)).alloc (.cells #[.string key, .slice A n c, c2, c3, c4, c5, c6, c7, c8, c9] 28)) := ((Below.refl _ _).alloc (Nat.le_refl _) _).alloc (by simp) _
  have HB0 := hide hB0
  clear hB0
  go_enter Tryd.func3, Tryd.ntmps3
  go_wp2_with (refine wpList_load_row rfl 28 _ rfl W.heap.size rfl 28 #[.string key, .slice A n c, c2, c3, c4, c5, c6, c7, c8, c9] (0, 0) _ (heap_alloc_new _ _) Tryd.underlying28 rfl actSize ?_)
  refine (great1 _ key A n c _ (by simp) (act_new _ _ _ _ _ _ (by simp)) (act_new _ _ _ _ _ _ (by simp))).mono ?_
  rintro e W1 ⟨rfl, hb1⟩
  have ha : ∀ i, W1.cell? ⟨W.heap.size, i, none⟩ = (#[.string key, .slice A n c, c2, c3, c4, c5, c6, c7, c8, c9] : Array Value)[i]? := fun i => by
    exact (hb1.cell (p := ⟨W.heap.size, i, none⟩) (by simp; omega)).trans (act_at _ _ _ _ _)
  have HA := hide ha
  have HB1 := hide (HB0.out.trans (hb1.mono HB0.out.size))
  have hs : W.heap.size < W1.heap.size := by have := hb1.size; simp at this; omega
  clear ha hb1 HB0
  by_cases hn : gA key n = true
  · go_wp2_with fail
    go_ret
    exact ⟨rfl, HB1.out⟩
  · have hn : gA key n = false := by simpa using hn
    go_wp2_with fail
    go_loopw [5] (fun i wr => ∃ k : Nat, k ≤ 2 ∧ i = .int .i64 k ∧ Hid (Ok W wr (W1.heap.size + 1) W1.heap.size #[.string key, .slice A n c, c2, c3, c4, c5, c6, c7, c8, c9])) (fun i _ => 2 - (intOf i).toNat)
    case atStart =>
      have e2 : ((W1.alloc (.cells #[.bool false, .map none] 34)).alloc (.cells #[.pointer none, .pointer (some ⟨W1.heap.size, 0, none⟩)] 31)).heap.size = W1.heap.size + 2 := by simp
      refine ⟨0, by omega, rfl, hide ⟨by rw [e2]; omega, by rw [e2]; omega, by rw [e2]; omega, fun i => ?_, ?_, ?_, ?_, ?_⟩⟩
      · rw [World.cell?_alloc_past _ _ _ (by simp; omega), World.cell?_alloc_past _ _ _ (by omega)]
        exact HA.out i
      · rw [World.cell?_alloc_at _ _ _ _ (by simp)]; rfl
      · rw [World.cell?_alloc_at _ _ _ _ (by simp)]; rfl
      · rw [World.cell?_alloc_past _ _ _ (by simp), World.cell?_alloc_at _ _ _ _ rfl]; rfl
      · exact (HB1.out.alloc (by omega) _).alloc (by simp; omega) _
    case round =>
      obtain ⟨k, hk, rfl, HO⟩ := hrel
      by_cases hlt : k < 2
      · obtain ⟨t, hct, hnm⟩ := HO.out.nm k hlt
        have HN := hide hnm
        have hl := HO.out.l0
        clear hnm
        have q0 : _ = some (Value.string key) := HO.out.a 0
        have q1 : _ = some (Value.slice A n c) := HO.out.a 1
        have q2 : _ = some c2 := HO.out.a 2
        have q3 : _ = some c3 := HO.out.a 3
        have q4 : _ = some c4 := HO.out.a 4
        have q5 : _ = some c5 := HO.out.a 5
        have q6 : _ = some c6 := HO.out.a 6
        have q7 : _ = some c7 := HO.out.a 7
        have q8 : _ = some c8 := HO.out.a 8
        have q9 : _ = some c9 := HO.out.a 9
        go_wp2_with fail
        refine (bring_no _ c2 c3 c4 c5 c6 c7 c8 c9 key A n c _ _ HN.out).mono ?_
        rintro e w1 ⟨rfl, hb⟩
        have HO1 := hide (HO.out.below hb)
        have HN1 := hide (HN.out.below hb)
        clear HO HN hb hct q0 q1 q2 q3 q4 q5 q6 q7 q8 q9
        have q0 : _ = some (Value.string key) := HO1.out.a 0
        have q1 : _ = some (Value.slice A n c) := HO1.out.a 1
        have q2 : _ = some c2 := HO1.out.a 2
        go_wp2_with fail
        refine (told_no _ _ _ _ _ HN1.out).mono ?_
        rintro e w2 ⟨rfl, hb⟩
        have hb' := hb.trans ((Below.refl _ w2).alloc hb.size (.cells #[.int .i64 0, .slice none 0 0, .string ⟨#[]⟩, .slice none 0 0, .bool false] 41))
        have HO2 := hide (HO1.out.below hb')
        have HN2 := hide (HN1.out.below hb')
        clear HO1 HN1 hb hb' q0 q1 q2
        go_wp2_with fail
        refine (same_nil _).mono ?_
        rintro e w3 ⟨rfl, hb⟩
        have HO3 := hide (HO2.out.below hb)
        have HN3 := hide (HN2.out.below hb)
        clear HO2 HN2 hb
        have q0 : _ = some (Value.string key) := HO3.out.a 0
        have q2 : _ = some c2 := HO3.out.a 2
        go_wp2_with (first
          | (go_at_call 9; refine (over_no _ _ _ _ _ HN3.out).mono ?_; rintro e w' ⟨rfl, rfl⟩)
          | (go_at_call 10; refine (many_no _ _ _ _ HN3.out).mono ?_; rintro e w' ⟨rfl, rfl⟩)
          | (go_at_call 11; refine (odd_no _ _ HN3.out).mono ?_; rintro e w' ⟨rfl, rfl⟩))
        go_roundw
        case rel => exact ⟨k + 1, by omega, by go_num, HO3⟩
        case measure => simp [intOf]; omega
      · obtain rfl : k = 2 := by omega
        have HB := hide HO.out.b
        go_wp2_with fail
        refine (copy_no _ _ (.inl rfl)).mono ?_
        rintro e w' ⟨rfl, rfl⟩
        go_wp2
        go_ret
        exact ⟨rfl, HB.out⟩
set_option maxRecDepth 100000 in
theorem walk {H : Type} {enc : TypeId × Value → H} {base : Nat} (W : World) (v0 : Value) (d0 : DataW H) (p0 : List MemPlace) (o0 : Value.okWide Tryd.prog W .any base 28 v0) (r0 : DataW.Trod enc Tryd.prog W 0 (fun _ => true) true 28 v0 d0 p0) :
    Calls Tryd.prog 3 #[v0] W fun e w' => e = .returned (.bool true) ∧ Below W.heap.size W w' := by
  obtain ⟨cs, rfl, hsz⟩ := okWide_struct Tryd.underlying28 o0
  obtain ⟨l⟩ := cs
  have hC : Tryd.prog.cellsOf 28 = 10 := by kernel_rfl
  have hC2 : Tryd.prog.cellsOf 24 = 2 := by kernel_rfl
  have hC3 : Tryd.prog.cellsOf 22 = 1 := by kernel_rfl
  have hC4 : Tryd.prog.cellsOf 9 = 1 := by kernel_rfl
  match l, hsz.trans hC with
  | [c0, c1, c2, c3, c4, c5, c6, c7, c8, c9], _ =>
    obtain ⟨fuel, hf⟩ := r0
    obtain ⟨xs, m, _, _, _, hlen, hg⟩ := DataW.trod_struct Tryd.underlying28 hf
    have h2 : DataW.trod enc Tryd.prog W 0 (fun _ => true) true m 24 (([c0, c1, c2, c3, c4, c5, c6, c7, c8, c9].drop 0).take (Tryd.prog.cellsOf 24)) = xs[0]? := hg 0 _ rfl
    rw [hC2, List.getElem?_eq_getElem (show 0 < xs.length by rw [hlen]; decide)] at h2
    have h2' : DataW.trod enc Tryd.prog W 0 (fun _ => true) true m 24 [c0, c1] = some (xs[0]'(by rw [hlen]; decide)) := h2
    obtain ⟨ys, m', _, _, _, hlen', hg'⟩ := DataW.trod_struct Tryd.underlying24 h2'
    have h8 : DataW.trod enc Tryd.prog W 0 (fun _ => true) true m' 22 (([c0, c1].drop 1).take (Tryd.prog.cellsOf 22)) = ys[1]? := hg' 1 _ rfl
    rw [hC3, List.getElem?_eq_getElem (show 1 < ys.length by rw [hlen']; decide)] at h8
    have h8' : DataW.trod enc Tryd.prog W 0 (fun _ => true) true m' 22 [c1] = some (ys[1]'(by rw [hlen']; decide)) := h8
    have h9 : DataW.trod enc Tryd.prog W 0 (fun _ => true) true m' 9 (([c0, c1].drop 0).take (Tryd.prog.cellsOf 9)) = ys[0]? := hg' 0 _ rfl
    rw [hC4, List.getElem?_eq_getElem (show 0 < ys.length by rw [hlen']; decide)] at h9
    have h9' : DataW.trod enc Tryd.prog W 0 (fun _ => true) true m' 9 [c0] = some (ys[0]'(by rw [hlen']; decide)) := h9
    obtain ⟨key, e0, _, _⟩ := DataW.trod_string Tryd.underlying9 h9'
    obtain rfl : c0 = .string key := by simpa using e0
    obtain ⟨A, n, c, rfl⟩ : ∃ A n c, c1 = .slice A n c := by
      rcases DataW.trod_slice Tryd.underlying22 h8' with h0 | ⟨a, len, cap, _, _, _, _, h0, _⟩
      · exact ⟨none, 0, 0, by simpa using h0.1⟩
      · exact ⟨some a, len, cap, by simpa using h0⟩
    exact law_any c2 c3 c4 c5 c6 c7 c8 c9 key A n c W
end Go.Proofs.YtccphiehocdfiaaDoor.CollNilW
