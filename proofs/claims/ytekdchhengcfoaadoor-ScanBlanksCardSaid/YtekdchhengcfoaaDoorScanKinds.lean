/- Each word that is scanned is of the kind that its text alone has. -/
import Derived.Test.YtekdchhengcfoaaDoorRows
import Derived.Test.YtekdchhengcfoaaDoorScanL
import Derived.Test.YtekdchhengcfoaaDoorScanWords
import Derived.Test.YtekdchhengcfoaaDoorQuietBelow
import Derived.Deep.RegionWith
namespace Go.Proofs.YtekdchhengcfoaaDoor
open Go.RowKit
set_option linter.unusedVariables false
set_option linter.unusedSimpArgs false
theorem row_text {W : World} {a : Option Addr} {len cap : Nat} {z : List Int} (h : IsRow .u8 W a len cap z) : ∃ s : ByteArray, s.size = len ∧ ∀ W', Below W.heap.size W W' → (convert 22 9 (.slice a s.size cap)).run Tryd.prog W' = .ok (.string s) W' := by
  rcases h with ⟨rfl, rfl, rfl, rfl⟩ | ⟨x, rfl, h1, h2, h3, h4, h5⟩
  · exact ⟨ByteArray.empty, rfl, fun W' _ => run_convert_bytes_nil W' _ 5 Tryd.underlying22 Tryd.underlying5 0 0 _ Tryd.underlying9⟩
  · let s : ByteArray := ⟨((z.take len).map fun n => UInt8.ofNat n.toNat).toArray⟩
    have hl : s.data.toList = (z.take len).map fun n => UInt8.ofNat n.toNat := rfl
    have hsz : s.size = len := by
      have e : s.size = s.data.toList.length := rfl
      rw [e, hl, List.length_map, List.length_take]; omega
    refine ⟨s, hsz, fun W' hb => conv_at W' s x cap fun j hj => ?_⟩
    have hj' : j < len := by
      have e : s.size = s.data.toList.length := rfl
      omega
    have hc := h4 j (by omega)
    have hblk : (x.add j).block < W.heap.size := block_lt_of_cell hc
    rw [hb.cell hblk, hc]
    have hjz : j < z.length := by omega
    have e1 : s.data.toList[j] = UInt8.ofNat (z[j]).toNat := by
      have : s.data.toList[j] = ((z.take len).map fun n => UInt8.ofNat n.toNat)[j]'(by rw [← hl]; exact hj) := rfl
      rw [this, List.getElem_map, List.getElem_take]
    have hw := h5 (z[j]) (List.getElem_mem hjz)
    simp [Lit.wf] at hw
    have hmn : IntKind.u8.min = 0 := rfl
    have hmx : IntKind.u8.max = 255 := rfl
    rw [e1, List.getD_eq_getElem?_getD, List.getElem?_eq_getElem hjz]
    simp only [Option.getD_some]
    congr 2
    rw [UInt8.toNat_ofNat']
    omega
theorem own_any {w : World} {B size n : Nat} {e : TypeId} {v : Value} {xs : List Value} (h : w.ownsRow B e size v n xs) : ∃ A cap, v = .slice A n cap ∧ Hid (0 < n → ∃ g, A = some ⟨g, 0, none⟩ ∧ n ≤ cap ∧ g < w.heap.size ∧ ∀ j u, xs[j]? = some u → w.cell? ⟨g, j, none⟩ = some u) := by
  rcases Nat.eq_zero_or_pos n with h0 | h0
  · rcases h.2 with ⟨hv, _⟩ | ⟨g, cap, cur, hv, _⟩
    · exact ⟨none, 0, by rw [hv, h0], hide fun h => by omega⟩
    · exact ⟨_, _, hv, hide fun h => by omega⟩
  · obtain ⟨g, cap, hv, h1, _, h3, h4⟩ := own_slice h h0
    exact ⟨_, _, hv, hide fun _ => ⟨g, rfl, h1, h3, h4⟩⟩
/-- What any scan tells. -/
theorem scan_any (p : Option Addr) (cap : Nat) (s : ByteArray) (w : World) (hs : s.size ≤ 20000) (hg : Sg w) (hcv : (convert 22 9 (.slice p s.size cap)).run Tryd.prog w = .ok (.string s) w) :
    Calls Tryd.prog 10 #[.slice p s.size cap] w fun e w' => (∃ (A : Option Addr) (c : Nat) (l : List Tok) (x y ev : Int), e = .returned (.tuple #[.slice A l.length c, .int .i64 x, .int .i64 y, .int .i64 ev]) ∧
      Hid ((0 < l.length → ∃ g, A = some ⟨g, 0, none⟩ ∧ l.length ≤ c ∧ g < w'.heap.size ∧ ∀ j u, (toks l)[j]? = some u → w'.cell? ⟨g, j, none⟩ = some u) ∧ (∀ t ∈ l, TokOk t.k t.s t.n ∧ t.s.size ≤ 20000) ∧ (0 < l.length → ev = 0) ∧ l.length ≤ s.size)) ∧ Below w.heap.size w w' := by
  refine (scan_a p cap s w (by omega) hg hcv).mono ?_
  rintro e w' ⟨hr, hb⟩
  unfold ScanR at hr
  rw [if_neg (by omega)] at hr
  obtain ⟨l, er, h1, h3, h2⟩ := hr
  refine ⟨?_, hb⟩
  rcases er with _ | ⟨a, b⟩
  · obtain ⟨v, rfl, hown⟩ := h2
    obtain ⟨A, c, rfl, hA⟩ := own_any hown
    exact ⟨A, c, l, 0, 0, 0, rfl, hide ⟨hA.out, fun t ht => ⟨(sc_ok h1 t ht).1, by have := (sc_ok h1 t ht).2; omega⟩, fun _ => rfl, h3⟩⟩
  · exact ⟨none, 0, [], a, b, 10, h2, hide ⟨fun h => absurd h (Nat.lt_irrefl 0), fun t ht => absurd ht List.not_mem_nil, fun h => absurd h (Nat.lt_irrefl 0), Nat.zero_le _⟩⟩
theorem name_k {k v : Int} {x : ByteArray} {B : Bool} (w : World) (h : TokOk k x v) (hx : x.size ≤ 20000) (hB : (k == 1) = B) : Calls Tryd.prog 16 #[.string x] w fun e w' => e = .returned (.bool B) ∧ Below w.heap.size w w' := by
  have := name_a x w (by omega)
  rwa [h.1, hB] at this
theorem word_k {k v : Int} {x : ByteArray} {B : Bool} (w : World) (h : TokOk k x v) (hB : (k == 3) = B) : Calls Tryd.prog 12 #[.string x] w fun e w' => e = .returned (.bool B) ∧ w = w' := by
  have := word_a x w
  rwa [h.2.1, hB] at this
theorem sign_k {k v : Int} {x : ByteArray} {B : Bool} (w : World) (h : TokOk k x v) (hx : x.size ≤ 20000) (hg : Sg w) (hB : (k == 4) = B) : Calls Tryd.prog 14 #[.string x] w fun e w' => e = .returned (.bool B) ∧ w = w' := by
  have := sign_a x w (by omega) hg
  rwa [h.2.2.1, hB] at this
theorem toks_at : ∀ (l : List Tok) (i : Nat) (h : i < l.length), (toks l)[i * 5]? = some (.int .u8 l[i].k) ∧ (toks l)[i * 5 + 1]? = some (.string l[i].s) ∧ (toks l)[i * 5 + 2]? = some (.int .i64 l[i].n) ∧ (toks l)[i * 5 + 3]? = some (.int .i64 l[i].l) ∧ (toks l)[i * 5 + 4]? = some (.int .i64 l[i].c)
  | t :: l, 0, h => ⟨rfl, rfl, rfl, rfl, rfl⟩
  | t :: l, i + 1, h => by
    have h1 := toks_at l i (by simpa using h)
    have e : ∀ j, (toks (t :: l))[(i + 1) * 5 + j]? = (toks l)[i * 5 + j]? := fun j => by
      have e1 : toks (t :: l) = tokC t ++ toks l := rfl
      have e2 : (tokC t).length = 5 := rfl
      rw [e1, List.getElem?_append_right (by omega)]
      congr 1
      omega
    have e0 := e 0
    simp only [Nat.add_zero] at e0
    rw [e0, e 1, e 2, e 3, e 4]
    exact h1
end Go.Proofs.YtekdchhengcfoaaDoor
namespace Go.Proofs.YtekdchhengcfoaaDoor.ScanKindsW
open Go.RowKit Go.Proofs.YtekdchhengcfoaaDoor
set_option linter.unusedVariables false
set_option maxRecDepth 100000 in
set_option maxHeartbeats 4000000 in
theorem walk (W : World) (hS : Sg W) (a0 : Option Addr) (len0 cap0 : Nat) (z0 : List Int) (w0 : IsRow .u8 W a0 len0 cap0 z0) (a1 : ByteArray) (w1 : a1.size ≤ maxLen) :
    Calls Tryd.prog 8 #[.slice a0 len0 cap0, .string a1] W fun e w' => e = .returned (.bool true) ∧ Below W.heap.size W w' := by
  unfold maxLen at w1
  obtain ⟨s, rfl, hcv⟩ := row_text w0
  have HS := hide hS
  have CV := hide hcv
  clear hS hcv w0
  by_cases hb : (2000 : Int) < (s.size : Int)
  · go_enter Tryd.func8, Tryd.ntmps8
    go_wp2_with fail
    refine (awake_c _ HS.out).mono ?_
    rintro e w2 ⟨rfl, hb2⟩
    have HB2 := hide hb2
    clear hb2
    go_wp2_with fail
    go_ret
    exact ⟨rfl, HB2.out⟩
  by_cases hb' : (12 : Int) < (a1.size : Int)
  · go_enter Tryd.func8, Tryd.ntmps8
    go_wp2_with fail
    refine (awake_c _ HS.out).mono ?_
    rintro e w2 ⟨rfl, hb2⟩
    have HB2 := hide hb2
    clear hb2
    go_wp2_with fail
    go_ret
    exact ⟨rfl, HB2.out⟩
  go_enter Tryd.func8, Tryd.ntmps8
  go_wp2_with fail
  refine (awake_c _ HS.out).mono ?_
  rintro e w2 ⟨rfl, hb2⟩
  have HB2 := hide hb2
  clear hb2
  go_wp2_with fail
  refine (scan_any a0 cap0 s w2 (by omega) (HS.out.below HB2.out) (CV.out _ HB2.out)).mono ?_
  rintro e w3 ⟨⟨A, c, l, x, y, ev, rfl, HL⟩, hb3⟩
  have HB3 := hide (HB2.out.trans (hb3.mono HB2.out.size))
  clear hb3
  have hll : l.length ≤ 2000 := by have := HL.out.2.2.2; omega
  go_wp2_with fail
  go_loopw [9] (fun vi wr => ∃ i : Nat, i ≤ l.length ∧ vi = .int .i64 i ∧ Hid (Below w3.heap.size w3 wr)) (fun vi _ => l.length - (intOf vi).toNat)
  case atStart => exact ⟨0, Nat.zero_le _, rfl, hide (Below.refl _ _)⟩
  case round =>
    obtain ⟨i, hi, rfl, HBr⟩ := hrel
    by_cases hlt : i < l.length
    · obtain ⟨g, rfl, hc, hgl, hcell⟩ := HL.out.1 (by omega)
      obtain rfl : ev = 0 := HL.out.2.2.1 (by omega)
      obtain ⟨t0, t1, t2, t3, t4⟩ := toks_at l i hlt
      have TK := hide (HL.out.2.1 _ (List.getElem_mem hlt))
      have far : ∀ j u, (toks l)[j]? = some u → wr.cell? ⟨g, j, none⟩ = some u := fun j u hj => (HBr.out.cell (p := ⟨g, j, none⟩) hgl).trans (hcell j u hj)
      have c0 := far _ _ t0
      have c1 := far _ _ t1
      have c2 := far _ _ t2
      have c3 := far _ _ t3
      have c4 := far _ _ t4
      have FAR := hide far
      have HC := hide hcell
      clear far hcell t0 t1 t2 t3 t4
      generalize l[i] = tk at *
      obtain ⟨k, sx, v, ln, cl⟩ := tk
      simp only at c0 c1 c2 c3 c4 TK
      obtain ⟨k1, k4⟩ : 1 ≤ k ∧ k ≤ 4 := ⟨TK.out.1.2.2.2.1, TK.out.1.2.2.2.2.1⟩
      have v0 : 0 ≤ v := TK.out.1.2.2.2.2.2.2
      have vk := TK.out.1.2.2.2.2.2.1
      rcases (by omega : k = 1 ∨ k = 3 ∨ k = 4 ∨ k = 2) with rfl | rfl | rfl | rfl
      · obtain rfl : v = 0 := by omega
        go_wp2_with fail
        have b0 := Blk.new wr 31 #[.int .u8 1, .string sx, .int .i64 0, .int .i64 ln, .int .i64 cl]
        have hb0 := HBr.out.alloc HBr.out.size (.cells #[.int .u8 1, .string sx, .int .i64 0, .int .i64 ln, .int .i64 cl] 31)
        have hlt0 : wr.heap.size < (wr.alloc (.cells #[.int .u8 1, .string sx, .int .i64 0, .int .i64 ln, .int .i64 cl] 31)).heap.size := by simp
        generalize wr.alloc (.cells #[.int .u8 1, .string sx, .int .i64 0, .int .i64 ln, .int .i64 cl] 31) = W0 at *
        have NE : Nonempty (BelowOf W0) := ⟨⟨W0, Below.refl _ _⟩⟩
        have q0 : ∀ p : BelowOf W0, p.world.cell? ⟨wr.heap.size, 0, none⟩ = some (.int .u8 1) := fun p => p.cell hlt0 (b0.cell 0)
        have q1 : ∀ p : BelowOf W0, p.world.cell? ⟨wr.heap.size, 1, none⟩ = some (.string sx) := fun p => p.cell hlt0 (b0.cell 1)
        have q2 : ∀ p : BelowOf W0, p.world.cell? ⟨wr.heap.size, 2, none⟩ = some (.int .i64 0) := fun p => p.cell hlt0 (b0.cell 2)
        have SG := hide (fun p : BelowOf W0 => (((HS.out.below HB3.out).below hb0).below p.below))
        have HB0 := hide hb0
        clear b0 hb0 hlt0
        refine wp_region_quiet_below (by kernel_rfl) (by kernel_rfl) ?_
        repeat (go_big_quiet_step (first
          | (go_at_call 16; refine calls_below (name_k _ TK.out.1 TK.out.2 rfl))
          | (go_at_call 12; refine calls_below_same (word_k _ TK.out.1 rfl))
          | (go_at_call 14; refine calls_below_same (sign_k _ TK.out.1 TK.out.2 (SG.out _) rfl))))
        refine wpQuiet_nil ?_
        rintro _ ⟨⟨Wq, hq⟩, rfl⟩
        go_wp2_with fail
        go_roundw
        case rel => exact ⟨i + 1, by omega, by go_num, hide (HB0.out.trans (hq.mono HB0.out.size))⟩
        case measure => simp [intOf]; omega
      · obtain rfl : v = 0 := by omega
        go_wp2_with fail
        have b0 := Blk.new wr 31 #[.int .u8 3, .string sx, .int .i64 0, .int .i64 ln, .int .i64 cl]
        have hb0 := HBr.out.alloc HBr.out.size (.cells #[.int .u8 3, .string sx, .int .i64 0, .int .i64 ln, .int .i64 cl] 31)
        have hlt0 : wr.heap.size < (wr.alloc (.cells #[.int .u8 3, .string sx, .int .i64 0, .int .i64 ln, .int .i64 cl] 31)).heap.size := by simp
        generalize wr.alloc (.cells #[.int .u8 3, .string sx, .int .i64 0, .int .i64 ln, .int .i64 cl] 31) = W0 at *
        have NE : Nonempty (BelowOf W0) := ⟨⟨W0, Below.refl _ _⟩⟩
        have q0 : ∀ p : BelowOf W0, p.world.cell? ⟨wr.heap.size, 0, none⟩ = some (.int .u8 3) := fun p => p.cell hlt0 (b0.cell 0)
        have q1 : ∀ p : BelowOf W0, p.world.cell? ⟨wr.heap.size, 1, none⟩ = some (.string sx) := fun p => p.cell hlt0 (b0.cell 1)
        have q2 : ∀ p : BelowOf W0, p.world.cell? ⟨wr.heap.size, 2, none⟩ = some (.int .i64 0) := fun p => p.cell hlt0 (b0.cell 2)
        have SG := hide (fun p : BelowOf W0 => (((HS.out.below HB3.out).below hb0).below p.below))
        have HB0 := hide hb0
        clear b0 hb0 hlt0
        refine wp_region_quiet_below (by kernel_rfl) (by kernel_rfl) ?_
        repeat (go_big_quiet_step (first
          | (go_at_call 16; refine calls_below (name_k _ TK.out.1 TK.out.2 rfl))
          | (go_at_call 12; refine calls_below_same (word_k _ TK.out.1 rfl))
          | (go_at_call 14; refine calls_below_same (sign_k _ TK.out.1 TK.out.2 (SG.out _) rfl))))
        refine wpQuiet_nil ?_
        rintro _ ⟨⟨Wq, hq⟩, rfl⟩
        go_wp2_with fail
        go_roundw
        case rel => exact ⟨i + 1, by omega, by go_num, hide (HB0.out.trans (hq.mono HB0.out.size))⟩
        case measure => simp [intOf]; omega
      · obtain rfl : v = 0 := by omega
        go_wp2_with fail
        have b0 := Blk.new wr 31 #[.int .u8 4, .string sx, .int .i64 0, .int .i64 ln, .int .i64 cl]
        have hb0 := HBr.out.alloc HBr.out.size (.cells #[.int .u8 4, .string sx, .int .i64 0, .int .i64 ln, .int .i64 cl] 31)
        have hlt0 : wr.heap.size < (wr.alloc (.cells #[.int .u8 4, .string sx, .int .i64 0, .int .i64 ln, .int .i64 cl] 31)).heap.size := by simp
        generalize wr.alloc (.cells #[.int .u8 4, .string sx, .int .i64 0, .int .i64 ln, .int .i64 cl] 31) = W0 at *
        have NE : Nonempty (BelowOf W0) := ⟨⟨W0, Below.refl _ _⟩⟩
        have q0 : ∀ p : BelowOf W0, p.world.cell? ⟨wr.heap.size, 0, none⟩ = some (.int .u8 4) := fun p => p.cell hlt0 (b0.cell 0)
        have q1 : ∀ p : BelowOf W0, p.world.cell? ⟨wr.heap.size, 1, none⟩ = some (.string sx) := fun p => p.cell hlt0 (b0.cell 1)
        have q2 : ∀ p : BelowOf W0, p.world.cell? ⟨wr.heap.size, 2, none⟩ = some (.int .i64 0) := fun p => p.cell hlt0 (b0.cell 2)
        have SG := hide (fun p : BelowOf W0 => (((HS.out.below HB3.out).below hb0).below p.below))
        have HB0 := hide hb0
        clear b0 hb0 hlt0
        refine wp_region_quiet_below (by kernel_rfl) (by kernel_rfl) ?_
        repeat (go_big_quiet_step (first
          | (go_at_call 16; refine calls_below (name_k _ TK.out.1 TK.out.2 rfl))
          | (go_at_call 12; refine calls_below_same (word_k _ TK.out.1 rfl))
          | (go_at_call 14; refine calls_below_same (sign_k _ TK.out.1 TK.out.2 (SG.out _) rfl))))
        refine wpQuiet_nil ?_
        rintro _ ⟨⟨Wq, hq⟩, rfl⟩
        go_wp2_with fail
        go_roundw
        case rel => exact ⟨i + 1, by omega, by go_num, hide (HB0.out.trans (hq.mono HB0.out.size))⟩
        case measure => simp [intOf]; omega
      · have hv : ¬ v < 0 := by omega
        go_wp2_with fail
        have b0 := Blk.new wr 31 #[.int .u8 2, .string sx, .int .i64 v, .int .i64 ln, .int .i64 cl]
        have hb0 := HBr.out.alloc HBr.out.size (.cells #[.int .u8 2, .string sx, .int .i64 v, .int .i64 ln, .int .i64 cl] 31)
        have hlt0 : wr.heap.size < (wr.alloc (.cells #[.int .u8 2, .string sx, .int .i64 v, .int .i64 ln, .int .i64 cl] 31)).heap.size := by simp
        generalize wr.alloc (.cells #[.int .u8 2, .string sx, .int .i64 v, .int .i64 ln, .int .i64 cl] 31) = W0 at *
        have NE : Nonempty (BelowOf W0) := ⟨⟨W0, Below.refl _ _⟩⟩
        have q0 : ∀ p : BelowOf W0, p.world.cell? ⟨wr.heap.size, 0, none⟩ = some (.int .u8 2) := fun p => p.cell hlt0 (b0.cell 0)
        have q1 : ∀ p : BelowOf W0, p.world.cell? ⟨wr.heap.size, 1, none⟩ = some (.string sx) := fun p => p.cell hlt0 (b0.cell 1)
        have q2 : ∀ p : BelowOf W0, p.world.cell? ⟨wr.heap.size, 2, none⟩ = some (.int .i64 v) := fun p => p.cell hlt0 (b0.cell 2)
        have SG := hide (fun p : BelowOf W0 => (((HS.out.below HB3.out).below hb0).below p.below))
        have HB0 := hide hb0
        clear b0 hb0 hlt0
        refine wp_region_quiet_below (by kernel_rfl) (by kernel_rfl) ?_
        repeat (go_big_quiet_step (first
          | (go_at_call 16; refine calls_below (name_k _ TK.out.1 TK.out.2 rfl))
          | (go_at_call 12; refine calls_below_same (word_k _ TK.out.1 rfl))
          | (go_at_call 14; refine calls_below_same (sign_k _ TK.out.1 TK.out.2 (SG.out _) rfl))))
        refine wpQuiet_nil ?_
        rintro _ ⟨⟨Wq, hq⟩, rfl⟩
        go_wp2_with fail
        go_roundw
        case rel => exact ⟨i + 1, by omega, by go_num, hide (HB0.out.trans (hq.mono HB0.out.size))⟩
        case measure => simp [intOf]; omega
    · obtain rfl : i = l.length := by omega
      clear hlt hi
      have hs1 : a1.size ≤ 9223372036854775807 := by omega
      have HB4 := hide (HB3.out.trans (HBr.out.mono HB3.out.size))
      have kb := fun (W : World) => run_bytes_of_string (P := Tryd.prog) W 9 22 5 a1 Tryd.underlying9 Tryd.underlying22 Tryd.underlying5
      have ee : (a1.toList == a1.toList) = true := by simp
      go_wp2_with fail
      refine (name_a a1 _ hs1).mono ?_
      rintro e w4 ⟨rfl, hb4⟩
      have HB5 := hide (HB4.out.trans (hb4.mono HB4.out.size))
      have Bn := hide (fun (o : Obj) => (below_drewN (Below.refl w4.heap.size w4) 1).alloc (Nat.le_refl _) o)
      clear hb4
      cases hn : nameB a1 with
      | true =>
        go_wp2_with fail
        obtain ⟨k, hsc⟩ := single (s := a1) (.inl hn)
        refine (scan_ok _ _ a1 _ (by omega) ((HS.out.below HB5.out).below (Bn.out _)) (conv_new w4.drew a1 _ _) hsc).mono ?_
        rintro e w5 ⟨⟨v, rfl, hown⟩, hb5⟩
        obtain ⟨g, cap5, rfl, h5, _, _, h7⟩ := own_slice hown (Nat.lt_add_one 0)
        have c1 := h7 1 (.string a1) rfl
        have c3 := h7 3 (.int .i64 1) rfl
        have c4 := h7 4 (.int .i64 1) rfl
        have HB6 := hide (HB5.out.trans (((Bn.out _).trans (hb5.mono (Nat.le_of_lt (by simp)))).mono HB5.out.size))
        have H7 := hide h7
        clear hb5 hown h7
        simp only [List.length_cons, List.length_nil, Nat.zero_add] at h5 ⊢
        go_wp2_with fail
        go_ret
        exact ⟨rfl, HB6.out⟩
      | false =>
        go_wp2_with fail
        refine (word_a a1 _).mono ?_
        rintro e w' ⟨rfl, rfl⟩
        cases hw : wordB a1.toList with
        | true =>
          go_wp2_with fail
          obtain ⟨k, hsc⟩ := single (s := a1) (.inr (.inl hw))
          refine (scan_ok _ _ a1 _ (by omega) ((HS.out.below HB5.out).below (Bn.out _)) (conv_new w4.drew a1 _ _) hsc).mono ?_
          rintro e w5 ⟨⟨v, rfl, hown⟩, hb5⟩
          obtain ⟨g, cap5, rfl, h5, _, _, h7⟩ := own_slice hown (Nat.lt_add_one 0)
          have c1 := h7 1 (.string a1) rfl
          have c3 := h7 3 (.int .i64 1) rfl
          have c4 := h7 4 (.int .i64 1) rfl
          have HB6 := hide (HB5.out.trans (((Bn.out _).trans (hb5.mono (Nat.le_of_lt (by simp)))).mono HB5.out.size))
          have H7 := hide h7
          clear hb5 hown h7
          simp only [List.length_cons, List.length_nil, Nat.zero_add] at h5 ⊢
          go_wp2_with fail
          go_ret
          exact ⟨rfl, HB6.out⟩
        | false =>
          go_wp2_with fail
          refine (sign_a a1 _ hs1 (HS.out.below HB5.out)).mono ?_
          rintro e w' ⟨rfl, rfl⟩
          cases hs : signB a1.toList with
          | true =>
            go_wp2_with fail
            obtain ⟨k, hsc⟩ := single (s := a1) (.inr (.inr hs))
            refine (scan_ok _ _ a1 _ (by omega) ((HS.out.below HB5.out).below (Bn.out _)) (conv_new w4.drew a1 _ _) hsc).mono ?_
            rintro e w5 ⟨⟨v, rfl, hown⟩, hb5⟩
            obtain ⟨g, cap5, rfl, h5, _, _, h7⟩ := own_slice hown (Nat.lt_add_one 0)
            have c1 := h7 1 (.string a1) rfl
            have c3 := h7 3 (.int .i64 1) rfl
            have c4 := h7 4 (.int .i64 1) rfl
            have HB6 := hide (HB5.out.trans (((Bn.out _).trans (hb5.mono (Nat.le_of_lt (by simp)))).mono HB5.out.size))
            have H7 := hide h7
            clear hb5 hown h7
            simp only [List.length_cons, List.length_nil, Nat.zero_add] at h5 ⊢
            go_wp2_with fail
            go_ret
            exact ⟨rfl, HB6.out⟩
          | false =>
            go_wp2_with fail
            go_ret
            exact ⟨rfl, HB5.out⟩
end Go.Proofs.YtekdchhengcfoaaDoor.ScanKindsW
