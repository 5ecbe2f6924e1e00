/- The reference's Split. -/
import Derived.Test.YtgiibknfkphkgaaDoorRows
import Derived.Test.YtgiibknfkphkgaaDoorSpF
import Derived.Test.YtgiibknfkphkgaaDoorSpU
import Derived.Test.YtgiibknfkphkgaaDoorSpX
import Derived.Deep.LoopGhost
import Derived.Test.YtgiibknfkphkgaaDoorQuietBelow
import Derived.BigQuiet
import Derived.LoopN
namespace Go.Proofs.YtgiibknfkphkgaaDoor
open Go Go.RowKit Go.Lib Go.Proofs.YtgiibknfkphkgaaDoor.Grp
set_option linter.unusedVariables false
set_option linter.unusedSimpArgs false
namespace Sp
/-- Which are done, as it lies. -/
def dnC (n : Nat) (D : Nat → Bool) : Array Value := (Array.range n).map fun j => .bool (D j)
theorem dnC_at {n j : Nat} (D : Nat → Bool) (h : j < n) : (dnC n D)[j]? = some (.bool (D j)) := by
  unfold dnC
  rw [Array.getElem?_map, Array.getElem?_eq_getElem (by simpa using h)]
  simp
theorem dnC_set {n b : Nat} (D : Nat → Bool) (h : b < n) : (dnC n D).setIfInBounds b (.bool true) = dnC n (fun j => D j || decide (j = b)) := by
  apply Array.ext (by simp [dnC])
  intro j h1 h2
  have hj : j < n := by simpa [dnC] using h2
  rw [Array.getElem_setIfInBounds (by simpa [dnC] using hj)]
  simp only [dnC, Array.getElem_map, Array.getElem_range]
  by_cases e : b = j
  · subst e; simp
  · have e2 : ¬ j = b := fun h => e h.symm
    simp [e, e2]
theorem dnC_made (n : Nat) : madeCells (Value.bool false).cells (n * 1) = dnC n (fun _ => false) := by
  apply Array.ext (by rw [size_madeCells]; simp [dnC])
  intro j h1 h2
  have hj : j < n := by simpa [dnC] using h2
  have e1 : (dnC n (fun _ => false))[j]? = some (.bool false) := dnC_at _ hj
  have e2 : (madeCells (Value.bool false).cells (n * 1))[j]? = some (.bool false) := by
    rw [Array.getElem?_eq_getElem h1]
    simp [madeCells, Value.cells, Nat.mod_one]
  rw [Array.getElem?_eq_getElem h1] at e2
  rw [Array.getElem?_eq_getElem h2] at e1
  exact Option.some.inj (e2.trans e1.symm)
/-- How many are not done. -/
def undone (D : Nat → Bool) : Nat → Nat
  | 0 => 0
  | n + 1 => undone D n + if D n then 0 else 1
theorem undone_le (D : Nat → Bool) : ∀ n, undone D n ≤ n
  | 0 => Nat.le_refl _
  | n + 1 => by
    have := undone_le D n
    unfold undone
    split <;> omega
theorem undone_all : ∀ n, undone (fun _ => false) n = n
  | 0 => rfl
  | n + 1 => by
    unfold undone
    rw [undone_all n]
    simp
theorem undone_far (D : Nat → Bool) (b : Nat) : ∀ n, n ≤ b → undone (fun j => D j || decide (j = b)) n = undone D n
  | 0, _ => rfl
  | n + 1, h => by
    unfold undone
    rw [undone_far D b n (by omega)]
    have e : ¬ n = b := by omega
    simp [e]
theorem undone_one (D : Nat → Bool) (b : Nat) (hb : D b = false) : ∀ n, b < n → undone (fun j => D j || decide (j = b)) n + 1 = undone D n
  | 0, h => absurd h (Nat.not_lt_zero b)
  | n + 1, h => by
    unfold undone
    rcases Nat.lt_or_ge b n with h1 | h1
    · have ih := undone_one D b hb n h1
      have e : ¬ n = b := by omega
      simp only [e, decide_false, Bool.or_false]
      omega
    · obtain rfl : b = n := by omega
      rw [undone_far D b b (Nat.le_refl _)]
      simp [hb]
theorem bool_infoS : (Tryd.prog.info? 4).map (fun i => (i.zero, i.size, i.bytes)) = some (some (.bool false), 1, 1) := by kernel_rfl
/-- What is made of a block of another type leaves the groups. -/
theorem OutA.keeps {K : Int → ByteArray} {tys : List TypeId} {w w' : World} {B oc : Nat} {O : Option Addr} {gs : List Gw} (h : OutA K w B O oc gs) (k : KeepsBut tys w w') (h1 : ¬ 24 ∈ tys) (h2 : ¬ 3 ∈ tys) : OutA K w' B O oc gs := ⟨KeepsBut.own k h.row h1, fun i hi => KeepsBut.own k (h.rs i hi) h2, h.apart⟩
/-- The last group is of the color that came last; there is none at first. -/
def LastB (gs : List Gw) (P : List Ak) (c : Int) : Prop := (P = [] ∧ gs = [] ∧ c = -1) ∨ ∃ m, gs.length = m + 1 ∧ (gs.getD m default).c = c
theorem grpN_app (P : List Ak) (x : Ak) : grpN (P ++ [x]) P.length = grpN P P.length := by
  unfold grpN
  rw [List.take_append_of_le_length (Nat.le_refl _)]
theorem len_app (P : List Ak) (x : Ak) : (P ++ [x]).length = P.length + 1 := by simp
/-- The reference's answer. -/
def splitPostB (key : ByteArray) (l : List Int) (k : Int) (q : List (Int × Int)) (w : World) (e : Ending) (w' : World) : Prop := ((bad l k q ∧ e = .returned (.tuple #[.slice none 0 0, .int .i64 2])) ∨ (¬ bad l k q ∧ ∃ (P : List Ak) (O : Option Addr) (oc : Nat) (gs : List Gw) (B0 : Nat), e = .returned (.tuple #[.slice O gs.length oc, .int .i64 0]) ∧ P.Pairwise ltA ∧ (∀ x, x ∈ P ↔ x ∈ askL q l q.length) ∧ gs.map Gw.p = grpN P P.length ∧ OutA (keyK key k) w' B0 O oc gs ∧ w.heap.size ≤ B0)) ∧ Below w.heap.size w w'
set_option maxRecDepth 100000 in
set_option maxHeartbeats 16000000 in
theorem SplitB_c (key : ByteArray) (A : Option Addr) (cap : Nat) (l : List Int) (k : Int) (B : Option Addr) (bc : Nat) (q : List (Int × Int)) (w : World) (h : NRow w A l) (hq : AskR w B q) (hl : l.length ≤ 1000) (hql : q.length ≤ 1000) (hks : key.size ≤ 1000) (hki : k ≤ 9223372036854775807) (hci : ∀ x ∈ q, x.1 ≤ 9223372036854775807) :
    Calls Tryd.prog 14 #[.agg #[.string key, .slice A l.length cap], .int .i64 k, .slice B q.length bc] w (splitPostB key l k q w) := by
  have b1 := Blk.new w 24 #[.string key, .slice A l.length cap]
  have hb1 := (Below.refl w.heap.size w).alloc (Nat.le_refl _) (.cells #[.string key, .slice A l.length cap] 24)
  have g0 : (w.alloc (.cells #[.string key, .slice A l.length cap] 24)).cell? ⟨w.heap.size, 0, none⟩ = some (.string key) := b1.cell 0
  have g1 : (w.alloc (.cells #[.string key, .slice A l.length cap] 24)).cell? ⟨w.heap.size, 1, none⟩ = some (.slice A l.length cap) := b1.cell 1
  have h1 := h.below hb1
  have hq1 := hq.below hb1
  have hs1 : (w.alloc (.cells #[.string key, .slice A l.length cap] 24)).heap.size = w.heap.size + 1 := by simp
  obtain ⟨W1, hW1⟩ : ∃ x, w.alloc (.cells #[.string key, .slice A l.length cap] 24) = x := ⟨_, rfl⟩
  rw [hW1] at b1 hb1 g0 g1 h1 hq1 hs1
  have MC := hide (May_b key A cap l W1 h1 hl)
  have GB1 := hide b1
  have HB1 := hide hb1
  have HN := hide h1
  have HQ := hide hq1
  have HS1 := hide hs1
  have HCI := hide hci
  clear b1 hb1 h1 hq1 hs1 h hq hci
  go_enter Tryd.func14, Tryd.ntmps14
  go_wp2_with fail
  refine MC.out.mono ?_
  rintro e W2 ⟨rfl, hb2⟩
  have HB2 := hide (HB1.out.trans (hb2.mono HB1.out.size))
  by_cases hmay : mayL l
  rotate_left
  · have BAD := hide (show bad l k q from .inl hmay)
    have hd : decide (mayL l) = false := decide_eq_false hmay
    rw [hd]
    clear hd hmay hb2 g0 g1
    go_wp2_with fail
    go_ret2
    exact ⟨.inl ⟨BAD.out, rfl⟩, HB2.out⟩
  have hd : decide (mayL l) = true := decide_eq_true hmay
  rw [hd]
  clear hd
  by_cases hk0 : k < 0
  · have BAD := hide (show bad l k q from .inr (.inl hk0))
    clear hmay hb2 g0 g1
    go_wp2_with fail
    go_ret2
    exact ⟨.inl ⟨BAD.out, rfl⟩, HB2.out⟩
  have GB2 := hide (GB1.out.below hb2 GB1.out.lt)
  have g1 : W2.cell? ⟨w.heap.size, 1, none⟩ = some (.slice A l.length cap) := GB2.out.cell 1
  by_cases hne : q.length = l.length
  rotate_left
  · have BAD := hide (show bad l k q from .inr (.inr hne))
    have hneI : ((q.length : Int) != (l.length : Int)) = true := by rw [bne_iff_ne]; omega
    clear hmay hb2 g0 hne
    go_wp2_with fail
    go_ret2
    exact ⟨.inl ⟨BAD.out, rfl⟩, HB2.out⟩
  have hneI : ((q.length : Int) != (l.length : Int)) = false := by rw [hne]; simp
  have GOOD := hide (show ¬ bad l k q from fun h => by
    rcases h with h | h | h
    · exact h hmay
    · exact hk0 h
    · exact h hne)
  have HNE := hide hne
  have HN2 := hide (HN.out.below hb2)
  have HQ2 := hide (HQ.out.below hb2)
  have HS2 := hide (show w.heap.size < W2.heap.size by have := HS1.out; have := hb2.size; omega)
  have hk0' : 0 ≤ k := by omega
  have DCK := hide (fun (w1 : World) => digits_i k hk0' hki w1)
  have DCC := hide (fun (c : Int) (h0 : 0 ≤ c) (h1 : c ≤ 9223372036854775807) (w1 : World) => digits_i c h0 h1 w1)
  obtain ⟨i0, hi0, hz0, hz1, hz2⟩ := info_parts bool_infoS
  have MK := run_make_rowN (P := Tryd.prog) 53 4 i0 (.bool false) Tryd.underlying53 hi0 hz0 .i64 .i64 q.length q.length (Nat.le_refl _) (by rw [hz2]; omega) (by omega) W2
  rw [hz1, dnC_made] at MK
  have bd := Blk.new W2 4 (dnC q.length (fun _ => false))
  have hbd := (Below.refl W2.heap.size W2).alloc (Nat.le_refl _) (.cells (dnC q.length (fun _ => false)) 4)
  obtain ⟨W3, hW3⟩ : ∃ x, W2.alloc (.cells (dnC q.length (fun _ => false)) 4) = x := ⟨_, rfl⟩
  rw [hW3] at bd hbd MK
  have BD3 := hide bd
  have HB3 := hide hbd
  clear bd hbd hi0 hz0 hz1 hz2 hmay hb2 hne g0
  go_wp2_with fail
  clear g1 hneI MK hW3
  have hql1 := hql
  go_loopg [8, 10] (q.length + 1) (fun gk vo vc wr => ∃ (D : Nat → Bool) (P : List Ak) (O : Option Addr) (oc : Nat) (gs : List Gw) (c : Int), gk = undone D q.length + 1 ∧ vo = .slice O gs.length oc ∧ vc = .int .i64 c ∧ Hid (Picked q l D P) ∧ Hid (P.length + undone D q.length = q.length) ∧ Hid (gs.map Gw.p = grpN P P.length) ∧ Hid (LastB gs P c) ∧ Hid (OutA (keyK key k) wr W2.heap.size O oc gs) ∧ Hid (Blk wr W2.heap.size 4 (dnC q.length D)) ∧ Hid (Below W2.heap.size W2 wr))
  case atStart => exact ⟨fun _ => false, [], none, 0, [], -1, by rw [undone_all], rfl, rfl, hide (Picked.nil q l (fun _ _ => rfl)), hide (by rw [undone_all]; simp), hide rfl, hide (.inl ⟨rfl, rfl, rfl⟩), hide (OutA.nil _ _), BD3, HB3⟩
  case round =>
    obtain ⟨D, P, O, oc, gs, c, hgk, rfl, rfl, HPK, HPL, HGS, HLB, OT0, BD0, HB0⟩ := hrel
    rename World => wr
    have HGK := hide hgk
    have hPl : P.length ≤ q.length := by have := HPL.out; omega
    have HGL0 := hide (gs_len HGS.out (Nat.le_refl _))
    have hgl1 : gs.length ≤ 1000 := by have := HGL0.out.1; omega
    have HGN0 := hide hgl1
    have HGNA := hide (fun j (hj : j < gs.length) => show gs[j].rs.length ≤ 1000 by have := HGL0.out.2 j hj; omega)
    clear hgk
    go_wp2_with fail
    go_loopw [11, 12] (fun vz vi ws => ∃ (i : Nat) (z : Int), i ≤ q.length ∧ vi = .int .i64 i ∧ vz = .int .i64 z ∧ Hid (Best q l D i z) ∧ Hid (OutA (keyK key k) ws W2.heap.size O oc gs) ∧ Hid (Blk ws W2.heap.size 4 (dnC q.length D)) ∧ Hid (Below W2.heap.size W2 ws)) (fun _ vi _ => q.length - (RowKit.intOf vi).toNat)
    case atStart => exact ⟨0, -1, Nat.zero_le _, rfl, rfl, hide (.inl ⟨rfl, fun j hj => absurd hj (Nat.not_lt_zero j)⟩), OT0, BD0, HB0⟩
    case round =>
      clear OT0 BD0 HB0
      obtain ⟨i, z, hi, rfl, rfl, HBE, OTs, BDs, HBs⟩ := hrel
      rename World => ws
      by_cases hlt : i < q.length
      · have hltI : (i : Int) < (q.length : Int) := by omega
        obtain ⟨aq, rfl, haq, c0, c1⟩ := (HQ2.out.below HBs.out).at_ hlt
        have d0 : ws.cell? ⟨W2.heap.size, i, none⟩ = some (.bool (D i)) := by rw [BDs.out.cell, dnC_at D hlt]
        have hgi : q.getD i (0, 0) = q[i] := by rw [List.getD_eq_getElem?_getD, List.getElem?_eq_getElem hlt]; rfl
        cases hDi : D i with
        | true =>
          have HNX := hide (best_skip q l HBE.out (fun hc => by have := hc.1; rw [hDi] at this; cases this))
          rw [hDi] at d0
          clear hDi hgi haq
          go_wp2_with fail
          go_roundw
          case rel => exact ⟨i + 1, z, by omega, by go_num, rfl, HNX, OTs, BDs, HBs⟩
          case measure => simp [RowKit.intOf] <;> omega
        | false =>
        rw [hDi] at d0
        by_cases hc0 : 0 ≤ q[i].1
        rotate_left
        · have HNX := hide (best_skip q l HBE.out (fun hc => by have := hc.2; rw [hgi] at this; exact hc0 this))
          obtain ⟨ci, hci9⟩ : ∃ x, q[i].1 = x := ⟨_, rfl⟩
          rw [hci9] at c0 hc0
          clear hDi hgi haq hci9
          go_wp2_with fail
          go_roundw
          case rel => exact ⟨i + 1, z, by omega, by go_num, rfl, HNX, OTs, BDs, HBs⟩
          case measure => simp [RowKit.intOf] <;> omega
        have hcand : Cand q D i := ⟨hDi, by rw [hgi]; exact hc0⟩
        have HC := hide hcand
        have HDR := hide (fun (w' : World) (hb : Below ws.heap.size ws w') => And.intro (OTs.out.below hb) (And.intro (BDs.out.below hb BDs.out.lt) (HBs.out.trans (hb.mono HBs.out.size))))
        have NE : Nonempty (BelowOf ws) := ⟨⟨ws, Below.refl _ _⟩⟩
        have UA := hide (fun (p : BelowOf ws) (j : Nat) (v : Value) (hv : ws.cell? (aq.add (j * 2)) = some v) => show p.world.cell? (aq.add (j * 2)) = some v from (p.below.cell (p := aq.add (j * 2)) (by rw [block_of_add]; exact haq)).trans hv)
        have UB := hide (fun (p : BelowOf ws) (j : Nat) (v : Value) (hv : ws.cell? ⟨(aq.add (j * 2)).block, (aq.add (j * 2)).off + 1, none⟩ = some v) => show p.world.cell? ⟨(aq.add (j * 2)).block, (aq.add (j * 2)).off + 1, none⟩ = some v from (p.below.cell (p := ⟨(aq.add (j * 2)).block, (aq.add (j * 2)).off + 1, none⟩) (by show (aq.add (j * 2)).block < _; rw [block_of_add]; exact haq)).trans hv)
        by_cases hz0 : z < 0
        · have hz1 : z = -1 := by
            rcases HBE.out with ⟨e, _⟩ | ⟨b, _, e, _⟩
            · exact e
            · omega
          subst hz1
          have HNX := hide (best_first q l HBE.out hcand)
          obtain ⟨ci, hci9⟩ : ∃ x, q[i].1 = x := ⟨_, rfl⟩
          rw [hci9] at c0 hc0
          clear hDi hgi haq hci9 hcand
          go_wp2_with fail
          clear c0 c1 d0
          refine wp_region_quiet_below (by kernel_rfl) (by kernel_rfl) ?_
          repeat (go_big_quiet_step (fail))
          refine wpQuiet_nil ?_
          rintro Wq ⟨⟨_, hq⟩, rfl⟩
          have HDQ := hide (HDR.out _ hq)
          clear hq NE
          go_wp2_with fail
          go_roundw
          case rel => exact ⟨i + 1, (i : Int), by omega, by go_num, rfl, HNX, hide HDQ.out.1, hide HDQ.out.2.1, hide HDQ.out.2.2⟩
          case measure => simp [RowKit.intOf] <;> omega
        obtain ⟨b, rfl⟩ : ∃ b : Nat, z = (b : Int) := ⟨z.toNat, by omega⟩
        obtain ⟨hbi, _⟩ := best_lt q l HBE.out
        have hbq : b < q.length := by omega
        have hbqI : (b : Int) < (q.length : Int) := by omega
        obtain ⟨aq', haq', _, e0, e1⟩ := (HQ2.out.below HBs.out).at_ hbq
        injection haq' with haq'
        subst haq'
        have hgb : q.getD b (0, 0) = q[b] := by rw [List.getD_eq_getElem?_getD, List.getElem?_eq_getElem hbq]; rfl
        have HNEW := hide (fun h => best_new q l HBE.out hcand h)
        have HOLD := hide (fun h => best_old q l HBE.out h)
        rw [hgi, hgb] at HNEW HOLD
        obtain ⟨ci, hci9⟩ : ∃ x, q[i].1 = x := ⟨_, rfl⟩
        obtain ⟨ki, hki9⟩ : ∃ x, q[i].2 = x := ⟨_, rfl⟩
        obtain ⟨cb, hcb9⟩ : ∃ x, q[b].1 = x := ⟨_, rfl⟩
        obtain ⟨kb, hkb9⟩ : ∃ x, q[b].2 = x := ⟨_, rfl⟩
        rw [hci9] at c0 hc0 HNEW HOLD
        rw [hki9] at c1 HNEW HOLD
        rw [hcb9] at e0 HNEW HOLD
        rw [hkb9] at e1 HNEW HOLD
        have u0 : ∀ p : BelowOf ws, p.world.cell? (aq.add (i * 2)) = some (.int .i64 ci) := fun p => UA.out p i _ c0
        have u1 : ∀ p : BelowOf ws, p.world.cell? ⟨(aq.add (i * 2)).block, (aq.add (i * 2)).off + 1, none⟩ = some (.int .i64 ki) := fun p => UB.out p i _ c1
        have u2 : ∀ p : BelowOf ws, p.world.cell? (aq.add (b * 2)) = some (.int .i64 cb) := fun p => UA.out p b _ e0
        have u3 : ∀ p : BelowOf ws, p.world.cell? ⟨(aq.add (b * 2)).block, (aq.add (b * 2)).off + 1, none⟩ = some (.int .i64 kb) := fun p => UB.out p b _ e1
        have hbz : ¬ (b : Int) < 0 := by omega
        have hbz2 : decide ((b : Int) < 0) = false := decide_eq_false hbz
        clear hDi hgi hgb haq hci9 hki9 hcb9 hkb9 hcand hz0
        by_cases hl1 : ci < cb
        · have HNX := hide (HNEW.out (.inl hl1))
          have hd1 : decide (ci < cb) = true := decide_eq_true hl1
          clear hl1
          go_wp2_with fail
          clear c0 c1 d0 e0 e1
          refine wp_region_quiet_below (by kernel_rfl) (by kernel_rfl) ?_
          repeat (go_big_quiet_step (fail))
          refine wpQuiet_nil ?_
          rintro Wq ⟨⟨_, hq⟩, rfl⟩
          have HDQ := hide (HDR.out _ hq)
          clear hq NE u0 u1 u2 u3
          go_wp2_with fail
          go_roundw
          case rel => exact ⟨i + 1, (i : Int), by omega, by go_num, rfl, HNX, hide HDQ.out.1, hide HDQ.out.2.1, hide HDQ.out.2.2⟩
          case measure => simp [RowKit.intOf] <;> omega
        have hd1 : decide (ci < cb) = false := decide_eq_false hl1
        by_cases hl2 : ci = cb
        rotate_left
        · have HNX := hide (HOLD.out (by omega))
          have hd2 : (ci == cb) = false := by rw [beq_eq_false_iff_ne]; exact hl2
          clear hl2
          go_wp2_with fail
          clear c0 c1 d0 e0 e1
          refine wp_region_quiet_below (by kernel_rfl) (by kernel_rfl) ?_
          repeat (go_big_quiet_step (fail))
          refine wpQuiet_nil ?_
          rintro Wq ⟨⟨_, hq⟩, rfl⟩
          have HDQ := hide (HDR.out _ hq)
          clear hq NE u0 u1 u2 u3
          go_wp2_with fail
          go_roundw
          case rel => exact ⟨i + 1, (b : Int), by omega, by go_num, rfl, HNX, hide HDQ.out.1, hide HDQ.out.2.1, hide HDQ.out.2.2⟩
          case measure => simp [RowKit.intOf] <;> omega
        by_cases hl3 : ki < kb
        · have HNX := hide (HNEW.out (.inr ⟨hl2, hl3⟩))
          subst hl2
          have hd2 : (ci == ci) = true := by simp
          have hd3 : decide (ki < kb) = true := decide_eq_true hl3
          clear hl1 hl3
          go_wp2_with fail
          clear c0 c1 d0 e0 e1
          refine wp_region_quiet_below (by kernel_rfl) (by kernel_rfl) ?_
          repeat (go_big_quiet_step (fail))
          refine wpQuiet_nil ?_
          rintro Wq ⟨⟨_, hq⟩, rfl⟩
          have HDQ := hide (HDR.out _ hq)
          clear hq NE u0 u1 u2 u3
          go_wp2_with fail
          go_roundw
          case rel => exact ⟨i + 1, (i : Int), by omega, by go_num, rfl, HNX, hide HDQ.out.1, hide HDQ.out.2.1, hide HDQ.out.2.2⟩
          case measure => simp [RowKit.intOf] <;> omega
        · have HNX := hide (HOLD.out (by omega))
          subst hl2
          have hd2 : (ci == ci) = true := by simp
          have hd3 : decide (ki < kb) = false := decide_eq_false hl3
          clear hl1 hl3
          go_wp2_with fail
          clear c0 c1 d0 e0 e1
          refine wp_region_quiet_below (by kernel_rfl) (by kernel_rfl) ?_
          repeat (go_big_quiet_step (fail))
          refine wpQuiet_nil ?_
          rintro Wq ⟨⟨_, hq⟩, rfl⟩
          have HDQ := hide (HDR.out _ hq)
          clear hq NE u0 u1 u2 u3
          go_wp2_with fail
          go_roundw
          case rel => exact ⟨i + 1, (b : Int), by omega, by go_num, rfl, HNX, hide HDQ.out.1, hide HDQ.out.2.1, hide HDQ.out.2.2⟩
          case measure => simp [RowKit.intOf] <;> omega
      have hltI : ¬ (i : Int) < (q.length : Int) := by omega
      obtain rfl : i = q.length := by omega
      clear hlt hi
      by_cases hz0 : z < 0
      · have hz1 : z = -1 := by
          rcases HBE.out with ⟨e, _⟩ | ⟨b, _, e, _⟩
          · exact e
          · omega
        subst hz1
        have HALL := hide (Picked.all q l HPK.out HBE.out)
        have hss : w.heap.size ≤ W2.heap.size := Nat.le_of_lt HS2.out
        go_wp2_with fail
        go_ret2
        exact ⟨.inr ⟨GOOD.out, P, O, oc, gs, W2.heap.size, rfl, HALL.out.1, HALL.out.2, HGS.out, OTs.out, hss⟩, HB2.out.trans (HBs.out.mono hss)⟩
      obtain ⟨nx, rfl⟩ : ∃ nx : Nat, z = (nx : Int) := ⟨z.toNat, by omega⟩
      obtain ⟨hbq, hcb⟩ := best_lt q l HBE.out
      have hbqI : (nx : Int) < (q.length : Int) := by omega
      have HPN := hide (Picked.snoc q l HPK.out HBE.out)
      have HUN := hide (undone_one D nx hcb.1 q.length hbq)
      have hgb : q.getD nx (0, 0) = q[nx] := by rw [List.getD_eq_getElem?_getD, List.getElem?_eq_getElem hbq]; rfl
      obtain ⟨aq, rfl, haq, e0, _⟩ := HQ2.out.at_ hbq
      obtain ⟨ad, rfl, had, hcd⟩ := HN2.out (by have := HNE.out; omega)
      have hbl : nx < l.length := by have := HNE.out; omega
      have hblI : (nx : Int) < (l.length : Int) := by omega
      have hrk := hcd nx hbl
      obtain ⟨x, hx⟩ : ∃ x, akOf q l nx = x := ⟨_, rfl⟩
      have hxc : q[nx].1 = x.c := by rw [← hx, ← hgb]; rfl
      have hxr : l.getD nx 0 = x.r := by rw [← hx]; rfl
      have hx0 : 0 ≤ x.c := by rw [← hxc, ← hgb]; exact hcb.2
      have hx1 : x.c ≤ 9223372036854775807 := by rw [← hxc]; exact HCI.out _ (List.getElem_mem hbq)
      rw [hx] at HPN
      rw [hxc] at e0
      rw [hxr] at hrk
      have HXC := hide (And.intro hx0 hx1)
      have bm := BDs.out.set_ nx (.bool true)
      rw [dnC_set D hbq] at bm
      have cd0 : ws.cell? ⟨W2.heap.size, nx, none⟩ = some (.bool (D nx)) := by rw [BDs.out.cell, dnC_at D hbq]
      have cf0 := BDs.out.frozen nx
      have om := OTs.out.keeps (keeps_set (p := ⟨W2.heap.size, nx, none⟩) BDs.out (.bool true)) (by decide) (by decide)
      have hbm := HBs.out.setCell (p := ⟨W2.heap.size, nx, none⟩) (Nat.le_refl _) (.bool true)
      obtain ⟨wq, hwq⟩ : ∃ x, ws.setCell ⟨W2.heap.size, nx, none⟩ (.bool true) = x := ⟨_, rfl⟩
      rw [hwq] at bm om hbm
      have OT := hide om
      have BM := hide bm
      have HBQ := hide hbm
      have HGBQ := hide (GB2.out.below hbm GB2.out.lt)
      have HW4 := hide (show W2.heap.size ≤ wq.heap.size from hbm.size)
      have e0 : wq.cell? (aq.add (nx * 2)) = some (.int .i64 x.c) := (hbm.cell (p := aq.add (nx * 2)) (by rw [block_of_add]; exact haq)).trans e0
      have HRK := hide (fun (w1 : World) (hb : Below W2.heap.size W2 w1) => (hb.cell (p := ad.add nx) (by rw [block_of_add]; exact had)).trans hrk)
      have HPL2 := hide (show (P ++ [x]).length + undone (fun j => D j || decide (j = nx)) q.length = q.length by rw [len_app]; have := HPL.out; have := HUN.out; omega)
      have HLT : Hid (P.length < (P ++ [x]).length) := hide (by rw [len_app]; omega)
      have HXE : Hid ((P ++ [x])[P.length]'HLT.out = x) := hide (by simp)
      have HGA : Hid (gs.map Gw.p = grpN (P ++ [x]) P.length) := hide (by rw [grpN_app]; exact HGS.out)
      obtain ⟨xc, xk, xn, xr⟩ := x
      simp only at e0 hx0 hx1 hrk
      have HXC : Hid (0 ≤ xc ∧ xc ≤ 9223372036854775807) := HXC
      have HRK : Hid (∀ (w1 : World), Below W2.heap.size W2 w1 → w1.cell? (ad.add nx) = some (.int .i64 xr)) := HRK
      clear hgb haq had hcd hrk hx hxc hxr hx0 hx1 bm om hbm hcb
      by_cases hcx : xc = c
      rotate_left
      · have hcI : (xc != c) = true := by rw [bne_iff_ne]; exact hcx
        have NEWC := hide (show P.length = 0 ∨ ∃ m, gs.length = m + 1 ∧ (gs.getD m default).c ≠ xc from by
          rcases HLB.out with ⟨h1, _, _⟩ | ⟨m, h1, h2⟩
          · exact .inl (by rw [h1]; rfl)
          · exact .inr ⟨m, h1, by rw [h2]; exact fun h => hcx h.symm⟩)
        clear hcx
        -- a new group
        obtain ⟨row, hrow⟩ : ∃ x, (Value.slice O gs.length oc).ownBlock = x := ⟨_, rfl⟩
        have HRL0 := hide (fun (g : Nat) (e : row = some g) => (own_block OT.out.row (hrow.trans e)))
        have hneG : some w.heap.size ≠ row := fun e => by have := (HRL0.out w.heap.size e.symm).1; have := HS2.out; omega
        have hneD : some W2.heap.size ≠ row := fun e => own_blk_ne OT.out.row BM.out (by decide) (hrow.trans e.symm)
        have szk := itoa_length_le k (by omega) hki
        have szc := itoa_length_le xc (by have := HXC.out.1; omega) HXC.out.2
        have sz0 : (behindS key k).size ≤ 1100 := by
          unfold behindS
          rw [ByteArray.size_append, ByteArray.size_append, bytes_size, bytes_size]
          simp only [List.length_cons, List.length_nil]
          omega
        have sz1 : ¬ 9223372036854775807 < (behindS key k).size + 1 := by omega
        have sz2 : ¬ 9223372036854775807 < (behindS key k).size + (bytes [58]).size + (bytes (itoa xc)).size := by
          rw [bytes_size, bytes_size]
          simp only [List.length_cons, List.length_nil]
          omega
        have sz3 : ¬ 9223372036854775807 < key.size + 1 := by omega
        have sz4 : ¬ 9223372036854775807 < key.size + (bytes [46]).size + (bytes (itoa k)).size := by
          rw [bytes_size, bytes_size]
          simp only [List.length_cons, List.length_nil]
          omega
        clear szk szc sz0
        go_wp2_with fail
        let K : World → World → Prop := fun a b => a.grownBy b row
        let R : Nat → Value → World → Prop := fun sl u w1 => match sl with
          | 110 => u = .slice O gs.length oc
          | 111 => u = .pointer (some ⟨w.heap.size, 0, none⟩)
          | 112 => u = .string key
          | 113 => u = .string (key ++ bytes [46])
          | 114 => u = .int .i64 k
          | 115 => u = .string (bytes (itoa k))
          | 116 => u = .string (behindS key k)
          | 117 => u = .string (behindS key k ++ bytes [58])
          | 118 => u = .int .i64 xc
          | 119 => u = .string (bytes (itoa xc))
          | 120 => u = .string (keyK key k xc)
          | 121 => u = .agg #[.string (keyK key k xc), .slice none 0 0]
          | 122 => ∃ b, u = .slice (some ⟨b, 0, none⟩) 1 1 ∧ wq.heap.size ≤ b ∧ Blk w1 b 24 #[.string (keyK key k xc), .slice none 0 0]
          | _ => True
        let J : Option Value → World → Prop := fun b w1 => match b with
          | none => w1.ownsRow W2.heap.size 24 2 (.slice O gs.length oc) gs.length (gwCs (keyK key k) gs)
          | some u => w1.ownsRow W2.heap.size 24 2 u (gs.length + 1) (gwCs (keyK key k) gs ++ [.string (keyK key k xc), .slice none 0 0])
        have hKB : ∀ x y, Below x.heap.size x y → K x y := fun _ _ hb => grown_of_below hb
        have hJB : ∀ b x y, J b x → Below x.heap.size x y → J b y := fun b x y hj hb => by
          cases b with
          | none => exact own_belowR hj hb
          | some u => exact own_belowR hj hb
        refine wp_region_relJ 14 123 R K J (by kernel_rfl) (by kernel_rfl) (by kernel_rfl) (by kernel_rfl) (by kernel_rfl) (fun _ _ _ h1 h2 => gtrans h1 h2) (hKB _ _ (Below.refl _ _).drew) OT.out.row.drew ?mono18 ?step18 ?fin18
        case mono18 =>
          intro sl u wx wy h hk
          match sl with
          | 122 =>
            obtain ⟨b, h1, h2, h3⟩ := h
            refine ⟨b, h1, h2, h3.grown hk fun e => ?_⟩
            have := (HRL0.out b e.symm).2.1
            omega
          | 0 | 1 | 2 | 3 | 4 | 5 | 6 | 7 | 8 | 9 | 10 | 11 | 12 | 13 | 14 | 15 | 16 | 17 | 18 | 19 | 20 | 21 | 22 | 23 | 24 | 25 | 26 | 27 | 28 | 29 | 30 | 31 | 32 | 33 | 34 | 35 | 36 | 37 | 38 | 39 | 40 | 41 | 42 | 43 | 44 | 45 | 46 | 47 | 48 | 49 | 50 | 51 | 52 | 53 | 54 | 55 | 56 | 57 | 58 | 59 | 60 | 61 | 62 | 63 | 64 | 65 | 66 | 67 | 68 | 69 | 70 | 71 | 72 | 73 | 74 | 75 | 76 | 77 | 78 | 79 | 80 | 81 | 82 | 83 | 84 | 85 | 86 | 87 | 88 | 89 | 90 | 91 | 92 | 93 | 94 | 95 | 96 | 97 | 98 | 99 | 100 | 101 | 102 | 103 | 104 | 105 | 106 | 107 | 108 | 109 | 110 | 111 | 112 | 113 | 114 | 115 | 116 | 117 | 118 | 119 | 120 | 121 | _ + 123 => exact h
        case step18 =>
          intro op hop
          simp only [List.take, List.mem_cons, List.not_mem_nil, or_false] at hop
          rcases hop with rfl | rfl | rfl | rfl | rfl | rfl | rfl | rfl | rfl | rfl | rfl | rfl | rfl | rfl
          · refine ⟨fun h => absurd h (by decide), fun _ b => stepJ_of hKB hJB fun a w1 hk hj hsm hr => ?_⟩
            have e8 : a.tmps.getD 8 undef = .slice O gs.length oc := hsm 8 (by decide)
            rw [Array.getD_eq_getD_getElem?] at e8
            unfold Oper.wp
            simp only [execOp, Act.eval, Array.getD_eq_getD_getElem?, e8]
            go_simp
            exact ⟨_, rfl, rfl, Below.refl _ _⟩
          · refine ⟨fun h => absurd h (by decide), fun _ b => stepJ_of hKB hJB fun a w1 hk hj hsm hr => ?_⟩
            have e3 : a.tmps.getD 3 undef = .pointer (some ⟨w.heap.size, 0, none⟩) := hsm 3 (by decide)
            rw [Array.getD_eq_getD_getElem?] at e3
            unfold Oper.wp
            simp only [execOp, Act.eval, Array.getD_eq_getD_getElem?, e3]
            go_simp
            exact ⟨_, rfl, rfl, Below.refl _ _⟩
          · refine ⟨fun h => absurd h (by decide), fun _ b => stepJ_of hKB hJB fun a w1 hk hj hsm hr => ?_⟩
            have e111 : a.tmps.getD 111 undef = .pointer (some ⟨w.heap.size, 0, none⟩) := hr 111 (by decide) (by apply Array.mem_toList_iff.1; repeat (first | exact List.Mem.head _ | apply List.Mem.tail))
            have cc0 : w1.cell? ⟨w.heap.size, 0, none⟩ = some (.string key) := (HGBQ.out.grown hk hneG).cell 0
            rw [Array.getD_eq_getD_getElem?] at e111
            unfold Oper.wp
            simp only [execOp, Act.eval, Array.getD_eq_getD_getElem?, e111]
            go_simp
            exact ⟨_, rfl, rfl, Below.refl _ _⟩
          · refine ⟨fun h => absurd h (by decide), fun _ b => stepJ_of hKB hJB fun a w1 hk hj hsm hr => ?_⟩
            have e112 : a.tmps.getD 112 undef = .string key := hr 112 (by decide) (by apply Array.mem_toList_iff.1; repeat (first | exact List.Mem.head _ | apply List.Mem.tail))
            rw [Array.getD_eq_getD_getElem?] at e112
            unfold Oper.wp
            simp only [execOp, Act.eval, Array.getD_eq_getD_getElem?, e112]
            go_simp
            exact ⟨_, rfl, rfl, Below.refl _ _⟩
          · refine ⟨fun h => absurd h (by decide), fun _ b => stepJ_of hKB hJB fun a w1 hk hj hsm hr => ?_⟩
            have e1 : a.tmps.getD 1 undef = .int .i64 k := hsm 1 (by decide)
            rw [Array.getD_eq_getD_getElem?] at e1
            unfold Oper.wp
            simp only [execOp, Act.eval, Array.getD_eq_getD_getElem?, e1]
            go_simp
            exact ⟨_, rfl, rfl, Below.refl _ _⟩
          · refine ⟨fun h => absurd h (by decide), fun _ b => stepJ_of hKB hJB fun a w1 hk hj hsm hr => ?_⟩
            have e114 : a.tmps.getD 114 undef = .int .i64 k := hr 114 (by decide) (by apply Array.mem_toList_iff.1; repeat (first | exact List.Mem.head _ | apply List.Mem.tail))
            rw [Array.getD_eq_getD_getElem?] at e114
            unfold Oper.wp
            simp only [execOp, Act.eval, Array.getD_eq_getD_getElem?, e114]
            go_simp
            refine (DCK.out w1).mono ?_
            rintro e w9 ⟨rfl, hb9⟩
            exact ⟨_, rfl, rfl, hb9⟩
          · refine ⟨fun h => absurd h (by decide), fun _ b => stepJ_of hKB hJB fun a w1 hk hj hsm hr => ?_⟩
            have e113 : a.tmps.getD 113 undef = .string (key ++ bytes [46]) := hr 113 (by decide) (by apply Array.mem_toList_iff.1; repeat (first | exact List.Mem.head _ | apply List.Mem.tail))
            have e115 : a.tmps.getD 115 undef = .string (bytes (itoa k)) := hr 115 (by decide) (by apply Array.mem_toList_iff.1; repeat (first | exact List.Mem.head _ | apply List.Mem.tail))
            rw [Array.getD_eq_getD_getElem?] at e113
            rw [Array.getD_eq_getD_getElem?] at e115
            unfold Oper.wp
            simp only [execOp, Act.eval, Array.getD_eq_getD_getElem?, e113, e115]
            go_simp
            exact ⟨_, rfl, rfl, Below.refl _ _⟩
          · refine ⟨fun h => absurd h (by decide), fun _ b => stepJ_of hKB hJB fun a w1 hk hj hsm hr => ?_⟩
            have e116 : a.tmps.getD 116 undef = .string (behindS key k) := hr 116 (by decide) (by apply Array.mem_toList_iff.1; repeat (first | exact List.Mem.head _ | apply List.Mem.tail))
            rw [Array.getD_eq_getD_getElem?] at e116
            unfold Oper.wp
            simp only [execOp, Act.eval, Array.getD_eq_getD_getElem?, e116]
            go_simp
            exact ⟨_, rfl, rfl, Below.refl _ _⟩
          · refine ⟨fun h => absurd h (by decide), fun _ b => stepJ_of hKB hJB fun a w1 hk hj hsm hr => ?_⟩
            have e10 : a.tmps.getD 10 undef = .int .i64 xc := hsm 10 (by decide)
            rw [Array.getD_eq_getD_getElem?] at e10
            unfold Oper.wp
            simp only [execOp, Act.eval, Array.getD_eq_getD_getElem?, e10]
            go_simp
            exact ⟨_, rfl, rfl, Below.refl _ _⟩
          · refine ⟨fun h => absurd h (by decide), fun _ b => stepJ_of hKB hJB fun a w1 hk hj hsm hr => ?_⟩
            have e118 : a.tmps.getD 118 undef = .int .i64 xc := hr 118 (by decide) (by apply Array.mem_toList_iff.1; repeat (first | exact List.Mem.head _ | apply List.Mem.tail))
            rw [Array.getD_eq_getD_getElem?] at e118
            unfold Oper.wp
            simp only [execOp, Act.eval, Array.getD_eq_getD_getElem?, e118]
            go_simp
            refine (DCC.out xc HXC.out.1 HXC.out.2 w1).mono ?_
            rintro e w9 ⟨rfl, hb9⟩
            exact ⟨_, rfl, rfl, hb9⟩
          · refine ⟨fun h => absurd h (by decide), fun _ b => stepJ_of hKB hJB fun a w1 hk hj hsm hr => ?_⟩
            have e117 : a.tmps.getD 117 undef = .string (behindS key k ++ bytes [58]) := hr 117 (by decide) (by apply Array.mem_toList_iff.1; repeat (first | exact List.Mem.head _ | apply List.Mem.tail))
            have e119 : a.tmps.getD 119 undef = .string (bytes (itoa xc)) := hr 119 (by decide) (by apply Array.mem_toList_iff.1; repeat (first | exact List.Mem.head _ | apply List.Mem.tail))
            rw [Array.getD_eq_getD_getElem?] at e117
            rw [Array.getD_eq_getD_getElem?] at e119
            unfold Oper.wp
            simp only [execOp, Act.eval, Array.getD_eq_getD_getElem?, e117, e119]
            go_simp
            exact ⟨_, rfl, rfl, Below.refl _ _⟩
          · refine ⟨fun h => absurd h (by decide), fun _ b => stepJ_of hKB hJB fun a w1 hk hj hsm hr => ?_⟩
            have e120 : a.tmps.getD 120 undef = .string (keyK key k xc) := hr 120 (by decide) (by apply Array.mem_toList_iff.1; repeat (first | exact List.Mem.head _ | apply List.Mem.tail))
            rw [Array.getD_eq_getD_getElem?] at e120
            unfold Oper.wp
            simp only [execOp, Act.eval, Array.getD_eq_getD_getElem?, e120]
            go_simp
            exact ⟨_, rfl, rfl, Below.refl _ _⟩
          · refine ⟨fun h => absurd h (by decide), fun _ b => stepJ_of hKB hJB fun a w1 hk hj hsm hr => ?_⟩
            have e121 : a.tmps.getD 121 undef = .agg #[.string (keyK key k xc), .slice none 0 0] := hr 121 (by decide) (by apply Array.mem_toList_iff.1; repeat (first | exact List.Mem.head _ | apply List.Mem.tail))
            have hsz := hk.size
            rw [Array.getD_eq_getD_getElem?] at e121
            unfold Oper.wp
            simp only [execOp, Act.eval, Array.getD_eq_getD_getElem?, e121]
            go_simp
            exact ⟨_, rfl, ⟨w1.heap.size, rfl, hsz, Blk.new w1 24 _⟩, (Below.refl _ _).alloc (Nat.le_refl _) _⟩
          · refine ⟨fun _ a w1 hk hj hsm hr => ?_, fun h => absurd rfl h⟩
            have e110 : a.tmps.getD 110 undef = .slice O gs.length oc := hr 110 (by decide) (by apply Array.mem_toList_iff.1; repeat (first | exact List.Mem.head _ | apply List.Mem.tail))
            have e122 : ∃ b, a.tmps.getD 122 undef = .slice (some ⟨b, 0, none⟩) 1 1 ∧ wq.heap.size ≤ b ∧ Blk w1 b 24 #[.string (keyK key k xc), .slice none 0 0] := hr 122 (by decide) (by apply Array.mem_toList_iff.1; repeat (first | exact List.Mem.head _ | apply List.Mem.tail))
            obtain ⟨b, e122', hb, hbb⟩ := e122
            have hj : w1.ownsRow W2.heap.size 24 2 (.slice O gs.length oc) gs.length (gwCs (keyK key k) gs) := hj
            have hrd : Reads w1 w1.heap.size 2 (some ⟨b, 0, none⟩) 1 [.string (keyK key k xc), .slice none 0 0] := ⟨rfl, fun _ => ⟨_, rfl, hbb.lt, fun j u hu => by rw [add_lit, hbb.cell]; simpa using hu⟩⟩
            obtain ⟨i0, hi0, hz0, hz1, hz2⟩ := info_parts gr_info
            obtain ⟨v', w'', hrun, hown', hgb, _⟩ := run_append_any (P := Tryd.prog) w1 W2.heap.size 33 33 24 i0 _ 2 40 Tryd.underlying33 hi0 hz0 hz1 hz2 (by rfl) (by omega) _ _ _ hj w1.heap.size (some ⟨b, 0, none⟩) 1 1 _ hrd (by intro u hu; simp only [List.mem_cons, List.not_mem_nil, or_false] at hu; rcases hu with rfl | rfl <;> rfl) (by have := HGN0.out; unfold maxLen; omega) (by have := HGN0.out; omega) (by have := hk.size; have := HBQ.out.size; omega)
            rw [hrow] at hgb
            exact Lib.wp_append_run w1 (.tmp 110) (.tmp 122) 33 33 rfl _ _ e110 e122' v' w'' hrun ⟨v', rfl, fun t ht => by cases ht; exact True.intro, hgb, hown'⟩
        case fin18 =>
          intro ff wp9 hk hj hr
          have hk : wq.grownBy wp9 row := hk
          have hown : wp9.ownsRow W2.heap.size 24 2 (ff 123) (gs.length + 1) (gwCs (keyK key k) gs ++ [.string (keyK key k xc), .slice none 0 0]) := hj
          obtain ⟨ap, cp, e123⟩ := own_form hown
          rw [e123] at hown
          have OT9 := hide (OutA.push OT.out (by rw [← hrow] at hk; exact hk) hown)
          have BM9 := hide (BM.out.grown hk hneD)
          have HGBQ9 := hide (HGBQ.out.grown hk hneG)
          have HBQ9 := hide (HBQ.out.grown hk HBQ.out.size (fun g e => (HRL0.out g e).1))
          have HW49 := hide (show W2.heap.size ≤ wp9.heap.size from HBQ9.out.size)
          obtain ⟨gb, hgb9⟩ : ∃ y, ap = some ⟨y, 0, none⟩ := by
            obtain ⟨y, h9, _⟩ := own_cell hown (by omega)
            exact ⟨y, h9⟩
          subst hgb9
          clear hr hj hown hk hKB hJB hrow hneG hneD
          simp only [putAll, slotsOf, List.take, List.drop, List.filterMap_cons, List.filterMap_nil, List.foldl_cons, List.foldl_nil, Act.put, e123]
          simp only [List.setIfInBounds_toArray, List.set_cons_succ, List.set_cons_zero]
          -- the new group is the last one
          have HGL := hide (show (gs ++ [(⟨xc, none, 0, []⟩ : Gw)]).length = gs.length + 1 by simp)
          have HGM := hide (fun j (hj : j < (gs ++ [(⟨xc, none, 0, []⟩ : Gw)]).length) => show (gs ++ [(⟨xc, none, 0, []⟩ : Gw)])[j].rs.length ≤ 1000 by
            by_cases h9 : j < gs.length
            · rw [List.getElem_append_left h9]; exact HGNA.out j h9
            · rw [List.getElem_append_right (by omega)]; simp)
          have ENDN := hide (fun a9 c9 gc gA gcap grs hm hg => end_new (x := ⟨xc, xk, xn, xr⟩) HGA.out HLT.out HXE.out NEWC.out a9 c9 gc gA gcap grs hm hg)
          simp only at ENDN
          obtain ⟨gs', hgs'⟩ : ∃ y, gs ++ [(⟨xc, none, 0, []⟩ : Gw)] = y := ⟨_, rfl⟩
          rw [hgs'] at OT9 HGL HGM ENDN
          clear hgs'
          obtain ⟨m, hm⟩ : ∃ m, gs.length = m := ⟨_, rfl⟩
          rw [hm] at HGL ENDN HGN0 ⊢
          have hgl : gs'.length = m + 1 := HGL.out
          have hm1000 : m ≤ 1000 := HGN0.out
          clear hm HGL
          -- the last group gets the rank
          have hmg : m < gs'.length := by omega
          obtain ⟨gl, hgl2⟩ : ∃ x, gs'[m]'hmg = x := ⟨_, rfl⟩
          have ROWM := OT9.out.rs m hmg
          have ADD := hide (fun (w9 : World) (a9 : Option Addr) (c9 : Nat) (r : Int) => OutA.add (r := r) (w9 := w9) (a9 := a9) (c9 := c9) OT9.out hmg)
          have hgn9 := HGM.out m hmg
          rw [hgl2] at ROWM ADD hgn9
          obtain ⟨gc, gA, gcap, grs⟩ := gl
          have HGN : Hid (grs.length ≤ 1000) := hide hgn9
          have ROWM : wp9.ownsRow W2.heap.size 3 1 (.slice gA grs.length gcap) grs.length (ints grs) := ROWM
          obtain ⟨o', hO, _, _, ⟨cso, hOb⟩, hOf, _, hOc⟩ := own_cell OT9.out.row (by omega)
          have hOo : o' = gb := by injection hO with h; injection h with h; exact h.symm
          subst hOo
          have HOB := hide hOb
          have hoc := hOc (m * 2 + 1) _ (gwCs_at (keyK key k) gs' m hmg).2
          rw [hgl2] at hoc
          have HOC : Hid (wp9.cell? ⟨o', m * 2 + 1, none⟩ = some (.slice gA grs.length gcap)) := hide hoc
          obtain ⟨row, hrow⟩ : ∃ x, (Value.slice gA grs.length gcap).ownBlock = x := ⟨_, rfl⟩
          have hneO : some o' ≠ row := fun e => own_blk_ne ROWM hOb (by decide) (hrow.trans e.symm)
          have hneD : some W2.heap.size ≠ row := fun e => own_blk_ne ROWM BM9.out (by decide) (hrow.trans e.symm)
          have hneG : some w.heap.size ≠ row := fun e => own_blk_ne ROWM HGBQ9.out (by decide) (hrow.trans e.symm)
          have HRL := hide (fun (g : Nat) (e : row = some g) => (own_block ROWM (hrow.trans e)))
          have HROWM := hide ROWM
          have HGL := hide hgl2
          have hoBW : W2.heap.size ≤ o' := (own_block OT9.out.row (g := o') rfl).1
          have hoNE : o' ≠ W2.heap.size := fun e => by
            have h8 := (show Blk wp9 o' _ cso from HOB.out)
            rw [e] at h8
            exact Blk.ne_ h8 BM9.out (by decide) rfl
          clear hO hOb hOf hOc hoc ROWM hgl2 hgn9
          go_wp2_with fail
          let K : World → World → Prop := fun a b => a.grownBy b row
          let R : Nat → Value → World → Prop := fun sl u w1 => match sl with
            | 127 => u = .slice (some ⟨o', 0, none⟩) (m + 1) cp
            | 128 => u = .int .i64 (m : Int)
            | 129 => u = .slice (some ⟨o', 0, none⟩) (m + 1) cp
            | 130 => u = .int .i64 (m : Int)
            | 131 => u = .pointer (some ⟨o', m * 2, none⟩)
            | 132 => u = .pointer (some ⟨o', m * 2 + 1, none⟩)
            | 133 => u = .slice gA grs.length gcap
            | 134 => u = .pointer (some ⟨w.heap.size, 1, none⟩)
            | 135 => u = .slice (some ad) l.length cap
            | 136 => u = .int .i64 (nx : Int)
            | 137 => u = .pointer (some (ad.add nx))
            | 138 => u = .int .i64 xr
            | 141 => u = .pointer (some ⟨o', m * 2, none⟩)
            | 142 => u = .pointer (some ⟨o', m * 2 + 1, none⟩)
            | 139 => ∃ b, u = .slice (some ⟨b, 0, none⟩) 1 1 ∧ wp9.heap.size ≤ b ∧ Blk w1 b 3 #[.int .i64 xr]
            | _ => True
          let J : Option Value → World → Prop := fun b w1 => match b with
            | none => w1.ownsRow W2.heap.size 3 1 (.slice gA grs.length gcap) grs.length (ints grs)
            | some u => w1.ownsRow W2.heap.size 3 1 u (grs.length + 1) (ints grs ++ [.int .i64 xr]) ∧ ∀ g, u.ownBlock = some g → row = some g ∨ wp9.heap.size ≤ g
          have hKB : ∀ x y, Below x.heap.size x y → K x y := fun _ _ hb => grown_of_below hb
          have hJB : ∀ b x y, J b x → Below x.heap.size x y → J b y := fun b x y hj hb => by
            cases b with
            | none => exact own_belowR hj hb
            | some u => exact ⟨own_belowR hj.1 hb, hj.2⟩
          refine wp_region_relJ 16 140 R K J (by kernel_rfl) (by kernel_rfl) (by kernel_rfl) (by kernel_rfl) (by kernel_rfl) (fun _ _ _ h1 h2 => gtrans h1 h2) (hKB _ _ (Below.refl _ _).drew) HROWM.out.drew ?mono20n ?step20n ?fin20n
          case mono20n =>
            intro sl u wx wy h hk
            match sl with
            | 139 =>
              obtain ⟨b, h1, h2, h3⟩ := h
              refine ⟨b, h1, h2, h3.grown hk fun e => ?_⟩
              have := (HRL.out b e.symm).2.1
              omega
            | 0 | 1 | 2 | 3 | 4 | 5 | 6 | 7 | 8 | 9 | 10 | 11 | 12 | 13 | 14 | 15 | 16 | 17 | 18 | 19 | 20 | 21 | 22 | 23 | 24 | 25 | 26 | 27 | 28 | 29 | 30 | 31 | 32 | 33 | 34 | 35 | 36 | 37 | 38 | 39 | 40 | 41 | 42 | 43 | 44 | 45 | 46 | 47 | 48 | 49 | 50 | 51 | 52 | 53 | 54 | 55 | 56 | 57 | 58 | 59 | 60 | 61 | 62 | 63 | 64 | 65 | 66 | 67 | 68 | 69 | 70 | 71 | 72 | 73 | 74 | 75 | 76 | 77 | 78 | 79 | 80 | 81 | 82 | 83 | 84 | 85 | 86 | 87 | 88 | 89 | 90 | 91 | 92 | 93 | 94 | 95 | 96 | 97 | 98 | 99 | 100 | 101 | 102 | 103 | 104 | 105 | 106 | 107 | 108 | 109 | 110 | 111 | 112 | 113 | 114 | 115 | 116 | 117 | 118 | 119 | 120 | 121 | 122 | 123 | 124 | 125 | 126 | 127 | 128 | 129 | 130 | 131 | 132 | 133 | 134 | 135 | 136 | 137 | 138 | 140 | 141 | 142 | _ + 143 => exact h
          case fin20n =>
            intro ff w9 hk hj hr
            have hk : wp9.grownBy w9 row := hk
            obtain ⟨hown, hob⟩ : w9.ownsRow W2.heap.size 3 1 (ff 140) (grs.length + 1) (ints grs ++ [.int .i64 xr]) ∧ ∀ g, (ff 140).ownBlock = some g → row = some g ∨ wp9.heap.size ≤ g := hj
            have e142 : ff 142 = .pointer (some ⟨o', m * 2 + 1, none⟩) := hr 142 (by decide)
            obtain ⟨a9, c9, e140⟩ := own_form hown
            rw [e140] at hown hob
            have y0 : w9.cell? ⟨o', m * 2 + 1, none⟩ = some (.slice gA grs.length gcap) := (World.cell?_of_block (a := ⟨o', m * 2 + 1, none⟩) (hk.block o' HOB.out.lt hneO)).trans HOC.out
            have yf : w9.frozen? ⟨o', m * 2 + 1, none⟩ = false := (show Blk w9 o' 24 cso from (hk.block o' HOB.out.lt hneO).trans HOB.out).frozen _
            have OT9 := hide (ADD.out w9 a9 c9 xr (by rw [← hrow] at hk; exact hk) hown (fun g e => by rw [← hrow] at hob; exact hob g e))
            have HB9 := hide (((HBQ9.out.grown hk (by have := HBQ9.out.size; omega) (fun g e => (HRL.out g e).1))).setCell (p := ⟨o', m * 2 + 1, none⟩) hoBW (.slice a9 (grs.length + 1) c9))
            have BM9 := hide ((BM9.out.grown hk hneD).far (p := ⟨o', m * 2 + 1, none⟩) (fun e => hoNE e.symm) (.slice a9 (grs.length + 1) c9))
            clear hr hj hown hob hk hKB hJB
            simp only [putAll, slotsOf, List.take, List.drop, List.filterMap_cons, List.filterMap_nil, List.foldl_cons, List.foldl_nil, Act.put, e140, e142]
            simp only [List.setIfInBounds_toArray, List.set_cons_succ, List.set_cons_zero]
            have hset : (gs'.set m (⟨gc, a9, c9, grs ++ [xr]⟩ : Gw)).length = m + 1 := by rw [List.length_set]; exact hgl
            have HREL := hide (ENDN.out a9 c9 gc gA gcap grs hmg HGL.out)
            go_wp2_with fail
            go_roundg (undone (fun j => D j || decide (j = nx)) q.length + 1)
            case measure => have := HGK.out; have := HUN.out; omega
            case rel => exact ⟨_, P ++ [⟨xc, xk, xn, xr⟩], some ⟨o', 0, none⟩, cp, gs'.set m ⟨gc, a9, c9, grs ++ [xr]⟩, xc, rfl, by rw [hset], rfl, HPN, HPL2, hide (by rw [len_app]; exact HREL.out.1), hide (.inr ⟨m, hset, by have h9 := HREL.out.2 (Nat.succ_pos _); obtain ⟨m', h1, h2⟩ := h9; have h3 : m' = m := (by rw [hset] at h1; omega); rw [h3] at h2; rw [h2, Nat.add_sub_cancel, List.getD_eq_getElem?_getD, List.getElem?_eq_getElem HLT.out, HXE.out]; rfl⟩), OT9, BM9, HB9⟩
          case step20n =>
            intro op hop
            simp only [List.take, List.mem_cons, List.not_mem_nil, or_false] at hop
            rcases hop with rfl | rfl | rfl | rfl | rfl | rfl | rfl | rfl | rfl | rfl | rfl | rfl | rfl | rfl | rfl | rfl
            · refine ⟨fun h => absurd h (by decide), fun _ b => stepJ_of hKB hJB fun a w1 hk hj hsm hr => ?_⟩
              have e8 : a.tmps.getD 8 undef = .slice (some ⟨o', 0, none⟩) (m + 1) cp := hsm 8 (by decide)
              rw [Array.getD_eq_getD_getElem?] at e8
              unfold Oper.wp
              simp only [execOp, Act.eval, Array.getD_eq_getD_getElem?, e8]
              go_simp
              exact ⟨_, rfl, rfl, Below.refl _ _⟩
            · refine ⟨fun h => absurd h (by decide), fun _ b => stepJ_of hKB hJB fun a w1 hk hj hsm hr => ?_⟩
              have e13 : a.tmps.getD 13 undef = .int .i64 (m : Int) := hsm 13 (by decide)
              rw [Array.getD_eq_getD_getElem?] at e13
              unfold Oper.wp
              simp only [execOp, Act.eval, Array.getD_eq_getD_getElem?, e13]
              go_simp
              exact ⟨_, rfl, rfl, Below.refl _ _⟩
            · refine ⟨fun h => absurd h (by decide), fun _ b => stepJ_of hKB hJB fun a w1 hk hj hsm hr => ?_⟩
              have e8 : a.tmps.getD 8 undef = .slice (some ⟨o', 0, none⟩) (m + 1) cp := hsm 8 (by decide)
              rw [Array.getD_eq_getD_getElem?] at e8
              unfold Oper.wp
              simp only [execOp, Act.eval, Array.getD_eq_getD_getElem?, e8]
              go_simp
              exact ⟨_, rfl, rfl, Below.refl _ _⟩
            · refine ⟨fun h => absurd h (by decide), fun _ b => stepJ_of hKB hJB fun a w1 hk hj hsm hr => ?_⟩
              have e13 : a.tmps.getD 13 undef = .int .i64 (m : Int) := hsm 13 (by decide)
              rw [Array.getD_eq_getD_getElem?] at e13
              unfold Oper.wp
              simp only [execOp, Act.eval, Array.getD_eq_getD_getElem?, e13]
              go_simp
              exact ⟨_, rfl, rfl, Below.refl _ _⟩
            · refine ⟨fun h => absurd h (by decide), fun _ b => stepJ_of hKB hJB fun a w1 hk hj hsm hr => ?_⟩
              have e129 : a.tmps.getD 129 undef = .slice (some ⟨o', 0, none⟩) (m + 1) cp := hr 129 (by decide) (by apply Array.mem_toList_iff.1; repeat (first | exact List.Mem.head _ | apply List.Mem.tail))
              have e130 : a.tmps.getD 130 undef = .int .i64 (m : Int) := hr 130 (by decide) (by apply Array.mem_toList_iff.1; repeat (first | exact List.Mem.head _ | apply List.Mem.tail))
              rw [Array.getD_eq_getD_getElem?] at e129
              rw [Array.getD_eq_getD_getElem?] at e130
              unfold Oper.wp
              simp only [execOp, Act.eval, Array.getD_eq_getD_getElem?, e129, e130]
              go_simp
              rw [if_pos (by omega)]
              exact ⟨_, rfl, rfl, Below.refl _ _⟩
            · refine ⟨fun h => absurd h (by decide), fun _ b => stepJ_of hKB hJB fun a w1 hk hj hsm hr => ?_⟩
              have e131 : a.tmps.getD 131 undef = .pointer (some ⟨o', m * 2, none⟩) := hr 131 (by decide) (by apply Array.mem_toList_iff.1; repeat (first | exact List.Mem.head _ | apply List.Mem.tail))
              rw [Array.getD_eq_getD_getElem?] at e131
              unfold Oper.wp
              simp only [execOp, Act.eval, Array.getD_eq_getD_getElem?, e131]
              go_simp
              exact ⟨_, rfl, rfl, Below.refl _ _⟩
            · refine ⟨fun h => absurd h (by decide), fun _ b => stepJ_of hKB hJB fun a w1 hk hj hsm hr => ?_⟩
              have e132 : a.tmps.getD 132 undef = .pointer (some ⟨o', m * 2 + 1, none⟩) := hr 132 (by decide) (by apply Array.mem_toList_iff.1; repeat (first | exact List.Mem.head _ | apply List.Mem.tail))
              have cc0 : w1.cell? ⟨o', m * 2 + 1, none⟩ = some (.slice gA grs.length gcap) := (World.cell?_of_block (a := ⟨o', m * 2 + 1, none⟩) (hk.block o' HOB.out.lt hneO)).trans HOC.out
              rw [Array.getD_eq_getD_getElem?] at e132
              unfold Oper.wp
              simp only [execOp, Act.eval, Array.getD_eq_getD_getElem?, e132]
              go_simp
              exact ⟨_, rfl, rfl, Below.refl _ _⟩
            · refine ⟨fun h => absurd h (by decide), fun _ b => stepJ_of hKB hJB fun a w1 hk hj hsm hr => ?_⟩
              have e3 : a.tmps.getD 3 undef = .pointer (some ⟨w.heap.size, 0, none⟩) := hsm 3 (by decide)
              rw [Array.getD_eq_getD_getElem?] at e3
              unfold Oper.wp
              simp only [execOp, Act.eval, Array.getD_eq_getD_getElem?, e3]
              go_simp
              exact ⟨_, rfl, rfl, Below.refl _ _⟩
            · refine ⟨fun h => absurd h (by decide), fun _ b => stepJ_of hKB hJB fun a w1 hk hj hsm hr => ?_⟩
              have e134 : a.tmps.getD 134 undef = .pointer (some ⟨w.heap.size, 1, none⟩) := hr 134 (by decide) (by apply Array.mem_toList_iff.1; repeat (first | exact List.Mem.head _ | apply List.Mem.tail))
              have cc1 : w1.cell? ⟨w.heap.size, 1, none⟩ = some (.slice (some ad) l.length cap) := (HGBQ9.out.grown hk hneG).cell 1
              rw [Array.getD_eq_getD_getElem?] at e134
              unfold Oper.wp
              simp only [execOp, Act.eval, Array.getD_eq_getD_getElem?, e134]
              go_simp
              exact ⟨_, rfl, rfl, Below.refl _ _⟩
            · refine ⟨fun h => absurd h (by decide), fun _ b => stepJ_of hKB hJB fun a w1 hk hj hsm hr => ?_⟩
              have e11 : a.tmps.getD 11 undef = .int .i64 (nx : Int) := hsm 11 (by decide)
              rw [Array.getD_eq_getD_getElem?] at e11
              unfold Oper.wp
              simp only [execOp, Act.eval, Array.getD_eq_getD_getElem?, e11]
              go_simp
              exact ⟨_, rfl, rfl, Below.refl _ _⟩
            · refine ⟨fun h => absurd h (by decide), fun _ b => stepJ_of hKB hJB fun a w1 hk hj hsm hr => ?_⟩
              have e135 : a.tmps.getD 135 undef = .slice (some ad) l.length cap := hr 135 (by decide) (by apply Array.mem_toList_iff.1; repeat (first | exact List.Mem.head _ | apply List.Mem.tail))
              have e136 : a.tmps.getD 136 undef = .int .i64 (nx : Int) := hr 136 (by decide) (by apply Array.mem_toList_iff.1; repeat (first | exact List.Mem.head _ | apply List.Mem.tail))
              rw [Array.getD_eq_getD_getElem?] at e135
              rw [Array.getD_eq_getD_getElem?] at e136
              unfold Oper.wp
              simp only [execOp, Act.eval, Array.getD_eq_getD_getElem?, e135, e136]
              go_simp
              exact ⟨_, rfl, rfl, Below.refl _ _⟩
            · refine ⟨fun h => absurd h (by decide), fun _ b => stepJ_of hKB hJB fun a w1 hk hj hsm hr => ?_⟩
              have e137 : a.tmps.getD 137 undef = .pointer (some (ad.add nx)) := hr 137 (by decide) (by apply Array.mem_toList_iff.1; repeat (first | exact List.Mem.head _ | apply List.Mem.tail))
              have cc2 : w1.cell? (ad.add nx) = some (.int .i64 xr) := HRK.out w1 (HBQ9.out.grown hk (by have := HBQ9.out.size; omega) (fun g e => (HRL.out g e).1))
              rw [Array.getD_eq_getD_getElem?] at e137
              unfold Oper.wp
              simp only [execOp, Act.eval, Array.getD_eq_getD_getElem?, e137]
              go_simp
              exact ⟨_, rfl, rfl, Below.refl _ _⟩
            · refine ⟨fun h => absurd h (by decide), fun _ b => stepJ_of hKB hJB fun a w1 hk hj hsm hr => ?_⟩
              have e138 : a.tmps.getD 138 undef = .int .i64 xr := hr 138 (by decide) (by apply Array.mem_toList_iff.1; repeat (first | exact List.Mem.head _ | apply List.Mem.tail))
              have hsz := hk.size
              rw [Array.getD_eq_getD_getElem?] at e138
              unfold Oper.wp
              simp only [execOp, Act.eval, Array.getD_eq_getD_getElem?, e138]
              go_simp
              exact ⟨_, rfl, ⟨w1.heap.size, rfl, hsz, Blk.new w1 3 _⟩, (Below.refl _ _).alloc (Nat.le_refl _) _⟩
            · refine ⟨fun _ a w1 hk hj hsm hr => ?_, fun h => absurd rfl h⟩
              have e133 : a.tmps.getD 133 undef = .slice gA grs.length gcap := hr 133 (by decide) (by apply Array.mem_toList_iff.1; repeat (first | exact List.Mem.head _ | apply List.Mem.tail))
              have e139 : ∃ b, a.tmps.getD 139 undef = .slice (some ⟨b, 0, none⟩) 1 1 ∧ wp9.heap.size ≤ b ∧ Blk w1 b 3 #[.int .i64 xr] := hr 139 (by decide) (by apply Array.mem_toList_iff.1; repeat (first | exact List.Mem.head _ | apply List.Mem.tail))
              obtain ⟨b, e139', hb, hbb⟩ := e139
              have hj : w1.ownsRow W2.heap.size 3 1 (.slice gA grs.length gcap) grs.length (ints grs) := hj
              have hrd : Reads w1 w1.heap.size 1 (some ⟨b, 0, none⟩) 1 [.int .i64 xr] := ⟨rfl, fun _ => ⟨_, rfl, hbb.lt, fun j u hu => by rw [add_lit, hbb.cell]; simpa using hu⟩⟩
              obtain ⟨i0, hi0, hz0, hz1, hz2⟩ := info_parts int_infoG
              obtain ⟨v', w'', hrun, hown', hgb, hob'⟩ := run_append_any (P := Tryd.prog) w1 W2.heap.size 22 22 3 i0 _ 1 8 Tryd.underlying22 hi0 hz0 hz1 hz2 (by rfl) (by omega) _ _ _ hj w1.heap.size (some ⟨b, 0, none⟩) 1 1 _ hrd (by intro u hu; rw [List.mem_singleton.1 hu]; rfl) (by have := HGN.out; unfold maxLen; omega) (by have := HGN.out; omega) (by have := hk.size; have := HW49.out; omega)
              rw [hrow] at hgb
              have hob2 : ∀ g, v'.ownBlock = some g → row = some g ∨ wp9.heap.size ≤ g := fun g e => by
                rcases hob' with h9 | h9
                · exact .inl (by rw [← hrow, ← h9]; exact e)
                · rw [h9] at e
                  injection e with e
                  have := hk.size
                  exact .inr (by omega)
              exact Lib.wp_append_run w1 (.tmp 133) (.tmp 139) 22 22 rfl _ _ e133 e139' v' w'' hrun ⟨v', rfl, fun t ht => by cases ht; exact True.intro, hgb, ⟨hown', hob2⟩⟩
            · refine ⟨fun h => absurd h (by decide), fun _ b => stepJ_of hKB hJB fun a w1 hk hj hsm hr => ?_⟩
              have e127 : a.tmps.getD 127 undef = .slice (some ⟨o', 0, none⟩) (m + 1) cp := hr 127 (by decide) (by apply Array.mem_toList_iff.1; repeat (first | exact List.Mem.head _ | apply List.Mem.tail))
              have e128 : a.tmps.getD 128 undef = .int .i64 (m : Int) := hr 128 (by decide) (by apply Array.mem_toList_iff.1; repeat (first | exact List.Mem.head _ | apply List.Mem.tail))
              rw [Array.getD_eq_getD_getElem?] at e127
              rw [Array.getD_eq_getD_getElem?] at e128
              unfold Oper.wp
              simp only [execOp, Act.eval, Array.getD_eq_getD_getElem?, e127, e128]
              go_simp
              rw [if_pos (by omega)]
              exact ⟨_, rfl, rfl, Below.refl _ _⟩
            · refine ⟨fun h => absurd h (by decide), fun _ b => stepJ_of hKB hJB fun a w1 hk hj hsm hr => ?_⟩
              have e141 : a.tmps.getD 141 undef = .pointer (some ⟨o', m * 2, none⟩) := hr 141 (by decide) (by apply Array.mem_toList_iff.1; repeat (first | exact List.Mem.head _ | apply List.Mem.tail))
              rw [Array.getD_eq_getD_getElem?] at e141
              unfold Oper.wp
              simp only [execOp, Act.eval, Array.getD_eq_getD_getElem?, e141]
              go_simp
              exact ⟨_, rfl, rfl, Below.refl _ _⟩
      · have hcI : (xc != c) = false := by rw [bne_eq_false_iff_eq]; exact hcx
        obtain ⟨m, hgl0, hlc⟩ : ∃ m, gs.length = m + 1 ∧ (gs.getD m default).c = xc := by
          rcases HLB.out with ⟨_, _, h1⟩ | ⟨m, h1, h2⟩
          · have := HXC.out.1; omega
          · exact ⟨m, h1, h2.trans hcx.symm⟩
        have ENDS := hide (fun a9 c9 gc gA gcap grs hm hg => end_same (x := ⟨xc, xk, xn, xr⟩) HGA.out HLT.out HXE.out hgl0 hlc a9 c9 gc gA gcap grs hm hg)
        simp only at ENDS
        have hm1000 : m ≤ 1000 := by have := HGN0.out; omega
        have hgl : gs.length = m + 1 := hgl0
        obtain ⟨o, hO⟩ : ∃ o, O = some ⟨o, 0, none⟩ := by
          obtain ⟨o, h, _⟩ := own_cell OT.out.row (by omega)
          exact ⟨o, h⟩
        subst hO
        have HLCX := hide hlc
        subst hcx
        clear hlc
        -- the last group gets the rank
        have hmg : m < gs.length := by omega
        obtain ⟨gl, hgl2⟩ : ∃ x, gs[m]'hmg = x := ⟨_, rfl⟩
        have ROWM := OT.out.rs m hmg
        have ADD := hide (fun (w9 : World) (a9 : Option Addr) (c9 : Nat) (r : Int) => OutA.add (r := r) (w9 := w9) (a9 := a9) (c9 := c9) OT.out hmg)
        have hgn9 := HGNA.out m hmg
        rw [hgl2] at ROWM ADD hgn9
        obtain ⟨gc, gA, gcap, grs⟩ := gl
        have HGN : Hid (grs.length ≤ 1000) := hide hgn9
        have ROWM : wq.ownsRow W2.heap.size 3 1 (.slice gA grs.length gcap) grs.length (ints grs) := ROWM
        obtain ⟨o', hO, _, _, ⟨cso, hOb⟩, hOf, _, hOc⟩ := own_cell OT.out.row (by omega)
        have hOo : o' = o := by injection hO with h; injection h with h; exact h.symm
        subst hOo
        have HOB := hide hOb
        have hoc := hOc (m * 2 + 1) _ (gwCs_at (keyK key k) gs m hmg).2
        rw [hgl2] at hoc
        have HOC : Hid (wq.cell? ⟨o', m * 2 + 1, none⟩ = some (.slice gA grs.length gcap)) := hide hoc
        obtain ⟨row, hrow⟩ : ∃ x, (Value.slice gA grs.length gcap).ownBlock = x := ⟨_, rfl⟩
        have hneO : some o' ≠ row := fun e => own_blk_ne ROWM hOb (by decide) (hrow.trans e.symm)
        have hneD : some W2.heap.size ≠ row := fun e => own_blk_ne ROWM BM.out (by decide) (hrow.trans e.symm)
        have hneG : some w.heap.size ≠ row := fun e => own_blk_ne ROWM HGBQ.out (by decide) (hrow.trans e.symm)
        have HRL := hide (fun (g : Nat) (e : row = some g) => (own_block ROWM (hrow.trans e)))
        have HROWM := hide ROWM
        have HGL := hide hgl2
        have hoBW : W2.heap.size ≤ o' := (own_block OT.out.row (g := o') rfl).1
        have hoNE : o' ≠ W2.heap.size := fun e => by
          have h8 := (show Blk wq o' _ cso from HOB.out)
          rw [e] at h8
          exact Blk.ne_ h8 BM.out (by decide) rfl
        clear hO hOb hOf hOc hoc ROWM hgl2 hgn9
        go_wp2_with fail
        let K : World → World → Prop := fun a b => a.grownBy b row
        let R : Nat → Value → World → Prop := fun sl u w1 => match sl with
          | 127 => u = .slice (some ⟨o', 0, none⟩) (m + 1) oc
          | 128 => u = .int .i64 (m : Int)
          | 129 => u = .slice (some ⟨o', 0, none⟩) (m + 1) oc
          | 130 => u = .int .i64 (m : Int)
          | 131 => u = .pointer (some ⟨o', m * 2, none⟩)
          | 132 => u = .pointer (some ⟨o', m * 2 + 1, none⟩)
          | 133 => u = .slice gA grs.length gcap
          | 134 => u = .pointer (some ⟨w.heap.size, 1, none⟩)
          | 135 => u = .slice (some ad) l.length cap
          | 136 => u = .int .i64 (nx : Int)
          | 137 => u = .pointer (some (ad.add nx))
          | 138 => u = .int .i64 xr
          | 141 => u = .pointer (some ⟨o', m * 2, none⟩)
          | 142 => u = .pointer (some ⟨o', m * 2 + 1, none⟩)
          | 139 => ∃ b, u = .slice (some ⟨b, 0, none⟩) 1 1 ∧ wq.heap.size ≤ b ∧ Blk w1 b 3 #[.int .i64 xr]
          | _ => True
        let J : Option Value → World → Prop := fun b w1 => match b with
          | none => w1.ownsRow W2.heap.size 3 1 (.slice gA grs.length gcap) grs.length (ints grs)
          | some u => w1.ownsRow W2.heap.size 3 1 u (grs.length + 1) (ints grs ++ [.int .i64 xr]) ∧ ∀ g, u.ownBlock = some g → row = some g ∨ wq.heap.size ≤ g
        have hKB : ∀ x y, Below x.heap.size x y → K x y := fun _ _ hb => grown_of_below hb
        have hJB : ∀ b x y, J b x → Below x.heap.size x y → J b y := fun b x y hj hb => by
          cases b with
          | none => exact own_belowR hj hb
          | some u => exact ⟨own_belowR hj.1 hb, hj.2⟩
        refine wp_region_relJ 16 140 R K J (by kernel_rfl) (by kernel_rfl) (by kernel_rfl) (by kernel_rfl) (by kernel_rfl) (fun _ _ _ h1 h2 => gtrans h1 h2) (hKB _ _ (Below.refl _ _).drew) HROWM.out.drew ?mono20s ?step20s ?fin20s
        case mono20s =>
          intro sl u wx wy h hk
          match sl with
          | 139 =>
            obtain ⟨b, h1, h2, h3⟩ := h
            refine ⟨b, h1, h2, h3.grown hk fun e => ?_⟩
            have := (HRL.out b e.symm).2.1
            omega
          | 0 | 1 | 2 | 3 | 4 | 5 | 6 | 7 | 8 | 9 | 10 | 11 | 12 | 13 | 14 | 15 | 16 | 17 | 18 | 19 | 20 | 21 | 22 | 23 | 24 | 25 | 26 | 27 | 28 | 29 | 30 | 31 | 32 | 33 | 34 | 35 | 36 | 37 | 38 | 39 | 40 | 41 | 42 | 43 | 44 | 45 | 46 | 47 | 48 | 49 | 50 | 51 | 52 | 53 | 54 | 55 | 56 | 57 | 58 | 59 | 60 | 61 | 62 | 63 | 64 | 65 | 66 | 67 | 68 | 69 | 70 | 71 | 72 | 73 | 74 | 75 | 76 | 77 | 78 | 79 | 80 | 81 | 82 | 83 | 84 | 85 | 86 | 87 | 88 | 89 | 90 | 91 | 92 | 93 | 94 | 95 | 96 | 97 | 98 | 99 | 100 | 101 | 102 | 103 | 104 | 105 | 106 | 107 | 108 | 109 | 110 | 111 | 112 | 113 | 114 | 115 | 116 | 117 | 118 | 119 | 120 | 121 | 122 | 123 | 124 | 125 | 126 | 127 | 128 | 129 | 130 | 131 | 132 | 133 | 134 | 135 | 136 | 137 | 138 | 140 | 141 | 142 | _ + 143 => exact h
        case fin20s =>
          intro ff w9 hk hj hr
          have hk : wq.grownBy w9 row := hk
          obtain ⟨hown, hob⟩ : w9.ownsRow W2.heap.size 3 1 (ff 140) (grs.length + 1) (ints grs ++ [.int .i64 xr]) ∧ ∀ g, (ff 140).ownBlock = some g → row = some g ∨ wq.heap.size ≤ g := hj
          have e142 : ff 142 = .pointer (some ⟨o', m * 2 + 1, none⟩) := hr 142 (by decide)
          obtain ⟨a9, c9, e140⟩ := own_form hown
          rw [e140] at hown hob
          have y0 : w9.cell? ⟨o', m * 2 + 1, none⟩ = some (.slice gA grs.length gcap) := (World.cell?_of_block (a := ⟨o', m * 2 + 1, none⟩) (hk.block o' HOB.out.lt hneO)).trans HOC.out
          have yf : w9.frozen? ⟨o', m * 2 + 1, none⟩ = false := (show Blk w9 o' 24 cso from (hk.block o' HOB.out.lt hneO).trans HOB.out).frozen _
          have OT9 := hide (ADD.out w9 a9 c9 xr (by rw [← hrow] at hk; exact hk) hown (fun g e => by rw [← hrow] at hob; exact hob g e))
          have HB9 := hide (((HBQ.out.grown hk (by have := HBQ.out.size; omega) (fun g e => (HRL.out g e).1))).setCell (p := ⟨o', m * 2 + 1, none⟩) hoBW (.slice a9 (grs.length + 1) c9))
          have BM9 := hide ((BM.out.grown hk hneD).far (p := ⟨o', m * 2 + 1, none⟩) (fun e => hoNE e.symm) (.slice a9 (grs.length + 1) c9))
          clear hr hj hown hob hk hKB hJB
          simp only [putAll, slotsOf, List.take, List.drop, List.filterMap_cons, List.filterMap_nil, List.foldl_cons, List.foldl_nil, Act.put, e140, e142]
          simp only [List.setIfInBounds_toArray, List.set_cons_succ, List.set_cons_zero]
          have hset : (gs.set m (⟨gc, a9, c9, grs ++ [xr]⟩ : Gw)).length = m + 1 := by rw [List.length_set]; exact hgl
          have HREL := hide (ENDS.out a9 c9 gc gA gcap grs hmg HGL.out)
          go_wp2_with fail
          go_roundg (undone (fun j => D j || decide (j = nx)) q.length + 1)
          case measure => have := HGK.out; have := HUN.out; omega
          case rel => exact ⟨_, P ++ [⟨xc, xk, xn, xr⟩], some ⟨o', 0, none⟩, oc, gs.set m ⟨gc, a9, c9, grs ++ [xr]⟩, xc, rfl, by rw [hset], rfl, HPN, HPL2, hide (by rw [len_app]; exact HREL.out.1), hide (.inr ⟨m, hset, by have h9 := HREL.out.2 (Nat.succ_pos _); obtain ⟨m', h1, h2⟩ := h9; have h3 : m' = m := (by rw [hset] at h1; omega); rw [h3] at h2; rw [h2, Nat.add_sub_cancel, List.getD_eq_getElem?_getD, List.getElem?_eq_getElem HLT.out, HXE.out]; rfl⟩), OT9, BM9, HB9⟩
        case step20s =>
          intro op hop
          simp only [List.take, List.mem_cons, List.not_mem_nil, or_false] at hop
          rcases hop with rfl | rfl | rfl | rfl | rfl | rfl | rfl | rfl | rfl | rfl | rfl | rfl | rfl | rfl | rfl | rfl
          · refine ⟨fun h => absurd h (by decide), fun _ b => stepJ_of hKB hJB fun a w1 hk hj hsm hr => ?_⟩
            have e8 : a.tmps.getD 8 undef = .slice (some ⟨o', 0, none⟩) (m + 1) oc := hsm 8 (by decide)
            rw [Array.getD_eq_getD_getElem?] at e8
            unfold Oper.wp
            simp only [execOp, Act.eval, Array.getD_eq_getD_getElem?, e8]
            go_simp
            exact ⟨_, rfl, rfl, Below.refl _ _⟩
          · refine ⟨fun h => absurd h (by decide), fun _ b => stepJ_of hKB hJB fun a w1 hk hj hsm hr => ?_⟩
            have e13 : a.tmps.getD 13 undef = .int .i64 (m : Int) := hsm 13 (by decide)
            rw [Array.getD_eq_getD_getElem?] at e13
            unfold Oper.wp
            simp only [execOp, Act.eval, Array.getD_eq_getD_getElem?, e13]
            go_simp
            exact ⟨_, rfl, rfl, Below.refl _ _⟩
          · refine ⟨fun h => absurd h (by decide), fun _ b => stepJ_of hKB hJB fun a w1 hk hj hsm hr => ?_⟩
            have e8 : a.tmps.getD 8 undef = .slice (some ⟨o', 0, none⟩) (m + 1) oc := hsm 8 (by decide)
            rw [Array.getD_eq_getD_getElem?] at e8
            unfold Oper.wp
            simp only [execOp, Act.eval, Array.getD_eq_getD_getElem?, e8]
            go_simp
            exact ⟨_, rfl, rfl, Below.refl _ _⟩
          · refine ⟨fun h => absurd h (by decide), fun _ b => stepJ_of hKB hJB fun a w1 hk hj hsm hr => ?_⟩
            have e13 : a.tmps.getD 13 undef = .int .i64 (m : Int) := hsm 13 (by decide)
            rw [Array.getD_eq_getD_getElem?] at e13
            unfold Oper.wp
            simp only [execOp, Act.eval, Array.getD_eq_getD_getElem?, e13]
            go_simp
            exact ⟨_, rfl, rfl, Below.refl _ _⟩
          · refine ⟨fun h => absurd h (by decide), fun _ b => stepJ_of hKB hJB fun a w1 hk hj hsm hr => ?_⟩
            have e129 : a.tmps.getD 129 undef = .slice (some ⟨o', 0, none⟩) (m + 1) oc := hr 129 (by decide) (by apply Array.mem_toList_iff.1; repeat (first | exact List.Mem.head _ | apply List.Mem.tail))
            have e130 : a.tmps.getD 130 undef = .int .i64 (m : Int) := hr 130 (by decide) (by apply Array.mem_toList_iff.1; repeat (first | exact List.Mem.head _ | apply List.Mem.tail))
            rw [Array.getD_eq_getD_getElem?] at e129
            rw [Array.getD_eq_getD_getElem?] at e130
            unfold Oper.wp
            simp only [execOp, Act.eval, Array.getD_eq_getD_getElem?, e129, e130]
            go_simp
            rw [if_pos (by omega)]
            exact ⟨_, rfl, rfl, Below.refl _ _⟩
          · refine ⟨fun h => absurd h (by decide), fun _ b => stepJ_of hKB hJB fun a w1 hk hj hsm hr => ?_⟩
            have e131 : a.tmps.getD 131 undef = .pointer (some ⟨o', m * 2, none⟩) := hr 131 (by decide) (by apply Array.mem_toList_iff.1; repeat (first | exact List.Mem.head _ | apply List.Mem.tail))
            rw [Array.getD_eq_getD_getElem?] at e131
            unfold Oper.wp
            simp only [execOp, Act.eval, Array.getD_eq_getD_getElem?, e131]
            go_simp
            exact ⟨_, rfl, rfl, Below.refl _ _⟩
          · refine ⟨fun h => absurd h (by decide), fun _ b => stepJ_of hKB hJB fun a w1 hk hj hsm hr => ?_⟩
            have e132 : a.tmps.getD 132 undef = .pointer (some ⟨o', m * 2 + 1, none⟩) := hr 132 (by decide) (by apply Array.mem_toList_iff.1; repeat (first | exact List.Mem.head _ | apply List.Mem.tail))
            have cc0 : w1.cell? ⟨o', m * 2 + 1, none⟩ = some (.slice gA grs.length gcap) := (World.cell?_of_block (a := ⟨o', m * 2 + 1, none⟩) (hk.block o' HOB.out.lt hneO)).trans HOC.out
            rw [Array.getD_eq_getD_getElem?] at e132
            unfold Oper.wp
            simp only [execOp, Act.eval, Array.getD_eq_getD_getElem?, e132]
            go_simp
            exact ⟨_, rfl, rfl, Below.refl _ _⟩
          · refine ⟨fun h => absurd h (by decide), fun _ b => stepJ_of hKB hJB fun a w1 hk hj hsm hr => ?_⟩
            have e3 : a.tmps.getD 3 undef = .pointer (some ⟨w.heap.size, 0, none⟩) := hsm 3 (by decide)
            rw [Array.getD_eq_getD_getElem?] at e3
            unfold Oper.wp
            simp only [execOp, Act.eval, Array.getD_eq_getD_getElem?, e3]
            go_simp
            exact ⟨_, rfl, rfl, Below.refl _ _⟩
          · refine ⟨fun h => absurd h (by decide), fun _ b => stepJ_of hKB hJB fun a w1 hk hj hsm hr => ?_⟩
            have e134 : a.tmps.getD 134 undef = .pointer (some ⟨w.heap.size, 1, none⟩) := hr 134 (by decide) (by apply Array.mem_toList_iff.1; repeat (first | exact List.Mem.head _ | apply List.Mem.tail))
            have cc1 : w1.cell? ⟨w.heap.size, 1, none⟩ = some (.slice (some ad) l.length cap) := (HGBQ.out.grown hk hneG).cell 1
            rw [Array.getD_eq_getD_getElem?] at e134
            unfold Oper.wp
            simp only [execOp, Act.eval, Array.getD_eq_getD_getElem?, e134]
            go_simp
            exact ⟨_, rfl, rfl, Below.refl _ _⟩
          · refine ⟨fun h => absurd h (by decide), fun _ b => stepJ_of hKB hJB fun a w1 hk hj hsm hr => ?_⟩
            have e11 : a.tmps.getD 11 undef = .int .i64 (nx : Int) := hsm 11 (by decide)
            rw [Array.getD_eq_getD_getElem?] at e11
            unfold Oper.wp
            simp only [execOp, Act.eval, Array.getD_eq_getD_getElem?, e11]
            go_simp
            exact ⟨_, rfl, rfl, Below.refl _ _⟩
          · refine ⟨fun h => absurd h (by decide), fun _ b => stepJ_of hKB hJB fun a w1 hk hj hsm hr => ?_⟩
            have e135 : a.tmps.getD 135 undef = .slice (some ad) l.length cap := hr 135 (by decide) (by apply Array.mem_toList_iff.1; repeat (first | exact List.Mem.head _ | apply List.Mem.tail))
            have e136 : a.tmps.getD 136 undef = .int .i64 (nx : Int) := hr 136 (by decide) (by apply Array.mem_toList_iff.1; repeat (first | exact List.Mem.head _ | apply List.Mem.tail))
            rw [Array.getD_eq_getD_getElem?] at e135
            rw [Array.getD_eq_getD_getElem?] at e136
            unfold Oper.wp
            simp only [execOp, Act.eval, Array.getD_eq_getD_getElem?, e135, e136]
            go_simp
            exact ⟨_, rfl, rfl, Below.refl _ _⟩
          · refine ⟨fun h => absurd h (by decide), fun _ b => stepJ_of hKB hJB fun a w1 hk hj hsm hr => ?_⟩
            have e137 : a.tmps.getD 137 undef = .pointer (some (ad.add nx)) := hr 137 (by decide) (by apply Array.mem_toList_iff.1; repeat (first | exact List.Mem.head _ | apply List.Mem.tail))
            have cc2 : w1.cell? (ad.add nx) = some (.int .i64 xr) := HRK.out w1 (HBQ.out.grown hk (by have := HBQ.out.size; omega) (fun g e => (HRL.out g e).1))
            rw [Array.getD_eq_getD_getElem?] at e137
            unfold Oper.wp
            simp only [execOp, Act.eval, Array.getD_eq_getD_getElem?, e137]
            go_simp
            exact ⟨_, rfl, rfl, Below.refl _ _⟩
          · refine ⟨fun h => absurd h (by decide), fun _ b => stepJ_of hKB hJB fun a w1 hk hj hsm hr => ?_⟩
            have e138 : a.tmps.getD 138 undef = .int .i64 xr := hr 138 (by decide) (by apply Array.mem_toList_iff.1; repeat (first | exact List.Mem.head _ | apply List.Mem.tail))
            have hsz := hk.size
            rw [Array.getD_eq_getD_getElem?] at e138
            unfold Oper.wp
            simp only [execOp, Act.eval, Array.getD_eq_getD_getElem?, e138]
            go_simp
            exact ⟨_, rfl, ⟨w1.heap.size, rfl, hsz, Blk.new w1 3 _⟩, (Below.refl _ _).alloc (Nat.le_refl _) _⟩
          · refine ⟨fun _ a w1 hk hj hsm hr => ?_, fun h => absurd rfl h⟩
            have e133 : a.tmps.getD 133 undef = .slice gA grs.length gcap := hr 133 (by decide) (by apply Array.mem_toList_iff.1; repeat (first | exact List.Mem.head _ | apply List.Mem.tail))
            have e139 : ∃ b, a.tmps.getD 139 undef = .slice (some ⟨b, 0, none⟩) 1 1 ∧ wq.heap.size ≤ b ∧ Blk w1 b 3 #[.int .i64 xr] := hr 139 (by decide) (by apply Array.mem_toList_iff.1; repeat (first | exact List.Mem.head _ | apply List.Mem.tail))
            obtain ⟨b, e139', hb, hbb⟩ := e139
            have hj : w1.ownsRow W2.heap.size 3 1 (.slice gA grs.length gcap) grs.length (ints grs) := hj
            have hrd : Reads w1 w1.heap.size 1 (some ⟨b, 0, none⟩) 1 [.int .i64 xr] := ⟨rfl, fun _ => ⟨_, rfl, hbb.lt, fun j u hu => by rw [add_lit, hbb.cell]; simpa using hu⟩⟩
            obtain ⟨i0, hi0, hz0, hz1, hz2⟩ := info_parts int_infoG
            obtain ⟨v', w'', hrun, hown', hgb, hob'⟩ := run_append_any (P := Tryd.prog) w1 W2.heap.size 22 22 3 i0 _ 1 8 Tryd.underlying22 hi0 hz0 hz1 hz2 (by rfl) (by omega) _ _ _ hj w1.heap.size (some ⟨b, 0, none⟩) 1 1 _ hrd (by intro u hu; rw [List.mem_singleton.1 hu]; rfl) (by have := HGN.out; unfold maxLen; omega) (by have := HGN.out; omega) (by have := hk.size; have := HW4.out; omega)
            rw [hrow] at hgb
            have hob2 : ∀ g, v'.ownBlock = some g → row = some g ∨ wq.heap.size ≤ g := fun g e => by
              rcases hob' with h9 | h9
              · exact .inl (by rw [← hrow, ← h9]; exact e)
              · rw [h9] at e
                injection e with e
                have := hk.size
                exact .inr (by omega)
            exact Lib.wp_append_run w1 (.tmp 133) (.tmp 139) 22 22 rfl _ _ e133 e139' v' w'' hrun ⟨v', rfl, fun t ht => by cases ht; exact True.intro, hgb, ⟨hown', hob2⟩⟩
          · refine ⟨fun h => absurd h (by decide), fun _ b => stepJ_of hKB hJB fun a w1 hk hj hsm hr => ?_⟩
            have e127 : a.tmps.getD 127 undef = .slice (some ⟨o', 0, none⟩) (m + 1) oc := hr 127 (by decide) (by apply Array.mem_toList_iff.1; repeat (first | exact List.Mem.head _ | apply List.Mem.tail))
            have e128 : a.tmps.getD 128 undef = .int .i64 (m : Int) := hr 128 (by decide) (by apply Array.mem_toList_iff.1; repeat (first | exact List.Mem.head _ | apply List.Mem.tail))
            rw [Array.getD_eq_getD_getElem?] at e127
            rw [Array.getD_eq_getD_getElem?] at e128
            unfold Oper.wp
            simp only [execOp, Act.eval, Array.getD_eq_getD_getElem?, e127, e128]
            go_simp
            rw [if_pos (by omega)]
            exact ⟨_, rfl, rfl, Below.refl _ _⟩
          · refine ⟨fun h => absurd h (by decide), fun _ b => stepJ_of hKB hJB fun a w1 hk hj hsm hr => ?_⟩
            have e141 : a.tmps.getD 141 undef = .pointer (some ⟨o', m * 2, none⟩) := hr 141 (by decide) (by apply Array.mem_toList_iff.1; repeat (first | exact List.Mem.head _ | apply List.Mem.tail))
            rw [Array.getD_eq_getD_getElem?] at e141
            unfold Oper.wp
            simp only [execOp, Act.eval, Array.getD_eq_getD_getElem?, e141]
            go_simp
            exact ⟨_, rfl, rfl, Below.refl _ _⟩
end Sp
end Go.Proofs.YtgiibknfkphkgaaDoor
