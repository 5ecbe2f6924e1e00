/- group.Split. -/
import Derived.Test.YtgiibknfkphkgaaDoorRows
import Derived.Test.YtgiibknfkphkgaaDoorSpE
import Derived.Test.YtgiibknfkphkgaaDoorSpC
import Derived.Test.YtgiibknfkphkgaaDoorSpG
import Derived.Test.YtgiibknfkphkgaaDoorSpI
import Derived.Test.YtgiibknfkphkgaaDoorOwn
import Derived.Lib.AppendZeros
import Derived.LoopN
namespace Go.Proofs.YtgiibknfkphkgaaDoor
open Go Go.RowKit Go.Lib Go.Proofs.YtgiibknfkphkgaaDoor.Grp
set_option linter.unusedVariables false
set_option linter.unusedSimpArgs false
namespace Sp
theorem gr_info : (Tryd.prog.info? 24).map (fun i => (i.zero, i.size, i.bytes)) = some (some (.agg #[.string ByteArray.empty, .slice none 0 0]), 2, 40) := by kernel_rfl
theorem ak_info : (Tryd.prog.info? 66).map (fun i => (i.zero, i.size, i.bytes)) = some (some (.agg #[.int .i64 0, .int .i64 0, .int .i64 0, .int .i64 0]), 4, 32) := by kernel_rfl
def bad (l : List Int) (k : Int) (q : List (Int × Int)) : Prop := ¬ mayL l ∨ k < 0 ∨ q.length ≠ l.length
/-- A group's key. -/
def keyK (key : ByteArray) (k : Int) (c : Int) : ByteArray := behindS key k ++ bytes [58] ++ bytes (Lib.itoa c)
/-- The groups as they lie. -/
def splitPost (key : ByteArray) (l : List Int) (k : Int) (q : List (Int × Int)) (w : World) (e : Ending) (w' : World) : Prop := ((bad l k q ∧ e = .returned (.tuple #[.slice none 0 0, .int .i64 2])) ∨ (¬ bad l k q ∧ ∃ (L' : List Ak) (O : Option Addr) (oc : Nat) (gs : List Gw) (B0 : Nat), e = .returned (.tuple #[.slice O gs.length oc, .int .i64 0]) ∧ L'.Perm (askL q l q.length) ∧ Srt L' ∧ gs.map Gw.p = grpN L' L'.length ∧ OutA (keyK key k) w' B0 O oc gs ∧ w.heap.size ≤ B0)) ∧ Below w.heap.size w w'
set_option maxRecDepth 100000 in
set_option maxHeartbeats 8000000 in
theorem Split_c (key : ByteArray) (A : Option Addr) (cap : Nat) (l : List Int) (k : Int) (B : Option Addr) (bc : Nat) (q : List (Int × Int)) (w : World) (h : NRow w A l) (hq : AskR w B q) (hl : l.length ≤ 1000) (hql : q.length ≤ 1000) (hp : Pow w) (hks : key.size ≤ 1000) (hki : k ≤ 9223372036854775807) (hci : ∀ x ∈ q, x.1 ≤ 9223372036854775807) :
    Calls Tryd.prog 13 #[.agg #[.string key, .slice A l.length cap], .int .i64 k, .slice B q.length bc] w (splitPost key l k q w) := by
  have b1 := Blk.new w 24 #[.string key, .slice A l.length cap]
  have hb1 := (Below.refl w.heap.size w).alloc (Nat.le_refl _) (.cells #[.string key, .slice A l.length cap] 24)
  have g0 : (w.alloc (.cells #[.string key, .slice A l.length cap] 24)).cell? ⟨w.heap.size, 0, none⟩ = some (.string key) := b1.cell 0
  have g1 : (w.alloc (.cells #[.string key, .slice A l.length cap] 24)).cell? ⟨w.heap.size, 1, none⟩ = some (.slice A l.length cap) := b1.cell 1
  have h1 := h.below hb1
  have hq1 := hq.below hb1
  have hs1 : (w.alloc (.cells #[.string key, .slice A l.length cap] 24)).heap.size = w.heap.size + 1 := by simp
  obtain ⟨W1, hW1⟩ : ∃ x, w.alloc (.cells #[.string key, .slice A l.length cap] 24) = x := ⟨_, rfl⟩
  rw [hW1] at b1 hb1 g0 g1 h1 hq1 hs1
  have MC := hide (May_a key A cap l W1 h1 hl)
  have GB1 := hide b1
  have HB1 := hide hb1
  have HN := hide h1
  have HQ := hide hq1
  have HS1 := hide hs1
  have HP := hide hp
  have HCI := hide hci
  clear b1 hb1 h1 hq1 hs1 h hq hp hci
  go_enter Tryd.func13, Tryd.ntmps13
  go_wp2_with fail
  refine MC.out.mono ?_
  rintro e W2 ⟨rfl, hb2⟩
  have HB2 := hide (HB1.out.trans (hb2.mono HB1.out.size))
  by_cases hmay : mayL l
  rotate_left
  · have BAD := hide (show bad l k q from .inl hmay)
    have hd : decide (mayL l) = false := decide_eq_false hmay
    rw [hd]
    clear hd hmay hb2 g0 g1
    go_wp2_with fail
    go_ret2
    exact ⟨.inl ⟨BAD.out, rfl⟩, HB2.out⟩
  have hd : decide (mayL l) = true := decide_eq_true hmay
  rw [hd]
  clear hd
  by_cases hk0 : k < 0
  · have BAD := hide (show bad l k q from .inr (.inl hk0))
    clear hmay hb2 g0 g1
    go_wp2_with fail
    go_ret2
    exact ⟨.inl ⟨BAD.out, rfl⟩, HB2.out⟩
  have GB2 := hide (GB1.out.below hb2 GB1.out.lt)
  have g1 : W2.cell? ⟨w.heap.size, 1, none⟩ = some (.slice A l.length cap) := GB2.out.cell 1
  by_cases hne : q.length = l.length
  rotate_left
  · have BAD := hide (show bad l k q from .inr (.inr hne))
    have hneI : ((q.length : Int) != (l.length : Int)) = true := by rw [bne_iff_ne]; omega
    clear hmay hb2 g0 hne
    go_wp2_with fail
    go_ret2
    exact ⟨.inl ⟨BAD.out, rfl⟩, HB2.out⟩
  have hneI : ((q.length : Int) != (l.length : Int)) = false := by rw [hne]; simp
  have GOOD := hide (show ¬ bad l k q from fun h => by
    rcases h with h | h | h
    · exact h hmay
    · exact hk0 h
    · exact h hne)
  have HNE := hide hne
  have HN2 := hide (HN.out.below hb2)
  have HQ2 := hide (HQ.out.below hb2)
  have HS2 := hide (show w.heap.size < W2.heap.size by have := HS1.out; have := hb2.size; omega)
  clear hmay hb2 hne g0
  go_wp2_with fail
  clear g1 hneI
  have hw2 := HS2.out
  go_loopw [8, 32] (fun vl vi wr => ∃ (i : Nat) (V : Option Addr) (vc : Nat), i ≤ q.length ∧ vi = .int .i64 i ∧ vl = .slice V (askL q l i).length vc ∧ Hid (wr.ownsRow W2.heap.size 66 4 (.slice V (askL q l i).length vc) (askL q l i).length (akCs (askL q l i))) ∧ Hid (Below W2.heap.size W2 wr)) (fun _ vi _ => q.length - (RowKit.intOf vi).toNat)
  case atStart => exact ⟨0, none, 0, by omega, rfl, rfl, hide ⟨rfl, .inl ⟨rfl, rfl⟩⟩, hide (Below.refl _ _)⟩
  case round =>
    obtain ⟨i, V, vc, hi, rfl, rfl, OW, HB⟩ := hrel
    rename World => wr
    by_cases hlt : i < q.length
    · have hltI : (i : Int) < (q.length : Int) := by omega
      have hltJ : (i : Int) < (l.length : Int) := by have := HNE.out; omega
      obtain ⟨aq, rfl, _, c0, c1⟩ := (HQ2.out.below HB.out).at_ hlt
      obtain ⟨ad, rfl, had, hcd⟩ := HN2.out (by have := HNE.out; omega)
      have hrk := hcd i (by have := HNE.out; omega)
      obtain ⟨qc, hqc⟩ : ∃ x, q[i].1 = x := ⟨_, rfl⟩
      obtain ⟨qk, hqk⟩ : ∃ x, q[i].2 = x := ⟨_, rfl⟩
      have HAS := hide (show askL q l (i + 1) = askL q l i ++ (if 0 ≤ qc then [⟨qc, qk, i, l.getD i 0⟩] else []) by
        rw [askL, List.getD_eq_getElem?_getD, List.getElem?_eq_getElem hlt, ← hqc, ← hqk]
        rfl)
      rw [hqc] at c0
      rw [hqk] at c1
      have hal := askL_len q l i
      -- the box of what is asked
      have bz := Blk.new wr 40 #[.int .i64 0, .int .i64 0]
      have hbz := (Below.refl wr.heap.size wr).alloc (Nat.le_refl _) (.cells #[.int .i64 0, .int .i64 0] 40)
      obtain ⟨wa, hwa⟩ : ∃ x, wr.alloc (.cells #[.int .i64 0, .int .i64 0] 40) = x := ⟨_, rfl⟩
      rw [hwa] at bz hbz
      have z0 := bz.cell 0
      have z1 := bz.cell 1
      have f0 := bz.frozen 0
      have f1 := bz.frozen 1
      have bx := (bz.set_ 0 (.int .i64 qc)).set_ 1 (.int .i64 qk)
      have hbx := (hbz.setCell (p := ⟨wr.heap.size, 0, none⟩) (Nat.le_refl _) (.int .i64 qc)).setCell (p := ⟨wr.heap.size, 1, none⟩) (Nat.le_refl _) (.int .i64 qk)
      obtain ⟨wb, hwb⟩ : ∃ x, (wa.setCell ⟨wr.heap.size, 0, none⟩ (.int .i64 qc)).setCell ⟨wr.heap.size, 1, none⟩ (.int .i64 qk) = x := ⟨_, rfl⟩
      rw [hwb] at bx hbx
      have HAB : Hid (Blk wb wr.heap.size 40 #[.int .i64 qc, .int .i64 qk]) := hide (by simpa using bx)
      have a0 : wb.cell? ⟨wr.heap.size, 0, none⟩ = some (.int .i64 qc) := HAB.out.cell 0
      have HBb := hide (HB.out.trans (hbx.mono HB.out.size))
      have hWr : wr.heap.size ≤ wb.heap.size := hbx.size
      have HOWN := hide (own_belowR OW.out hbx)
      have HGBb := hide (GB2.out.below HBb.out GB2.out.lt)
      have hrlow : ∀ g, (Value.slice V (askL q l i).length vc).ownBlock = some g → W2.heap.size ≤ g ∧ g < wr.heap.size := fun g hg => ⟨(own_block OW.out hg).1, (own_block OW.out hg).2.1⟩
      obtain ⟨row, hrow⟩ : ∃ x, (Value.slice V (askL q l i).length vc).ownBlock = x := ⟨_, rfl⟩
      rw [hrow] at hrlow
      have HRL := hide hrlow
      have HRK := hide (fun (w1 : World) (hk : wb.grownBy w1 row) => (World.cell?_of_block (a := ad.add i) (hk.block (ad.add i).block (by have := HBb.out.size; rw [block_of_add]; omega) (fun e => by have := (HRL.out (ad.add i).block e.symm).1; rw [block_of_add] at this; omega))).trans ((HBb.out.cell (p := ad.add i) (by rw [block_of_add]; exact had)).trans hrk))
      clear bz hbz bx hbx hqc hqk hcd hrk hrlow hw2
      generalize l.getD i 0 = r at *
      by_cases h0 : 0 ≤ qc
      rotate_left
      · have HAS2 := hide (show askL q l (i + 1) = askL q l i by rw [HAS.out, if_neg h0, List.append_nil])
        go_wp2_with fail
        go_roundw
        case rel => exact ⟨i + 1, V, vc, by omega, by go_num, by rw [HAS2.out], by rw [HAS2.out]; exact HOWN, HBb⟩
        case measure => simp [RowKit.intOf] <;> omega
      have HAS2 := hide (show askL q l (i + 1) = askL q l i ++ [⟨qc, qk, i, r⟩] by rw [HAS.out, if_pos h0])
      go_wp2_with fail
      clear z0 z1 f0 f1 hwa hwb c0 c1 a0
      have hneA : some wr.heap.size ≠ row := fun e => by have := (HRL.out wr.heap.size e.symm).2; omega
      have hneG : some w.heap.size ≠ row := fun e => by have := (HRL.out w.heap.size e.symm).1; have := HS2.out; omega
      have hW2b : W2.heap.size ≤ wb.heap.size := HBb.out.size
      let K : World → World → Prop := fun a b => a.grownBy b row
      let R : Nat → Value → World → Prop := fun sl u w1 => match sl with
        | 40 => u = .slice V (askL q l i).length vc
        | 41 => u = .agg #[.int .i64 qc, .int .i64 qk]
        | 42 => u = .int .i64 i
        | 43 => u = .pointer (some ⟨w.heap.size, 1, none⟩)
        | 44 => u = .slice (some ad) l.length cap
        | 45 => u = .int .i64 i
        | 46 => u = .pointer (some (ad.add i))
        | 47 => u = .int .i64 r
        | 48 => u = .agg #[.int .i64 qc, .int .i64 qk, .int .i64 i, .int .i64 r]
        | 49 => ∃ b, u = .slice (some ⟨b, 0, none⟩) 1 1 ∧ wb.heap.size ≤ b ∧ Blk w1 b 66 #[.int .i64 qc, .int .i64 qk, .int .i64 i, .int .i64 r]
        | _ => True
      let J : Option Value → World → Prop := fun b w1 => match b with
        | none => w1.ownsRow W2.heap.size 66 4 (.slice V (askL q l i).length vc) (askL q l i).length (akCs (askL q l i))
        | some u => w1.ownsRow W2.heap.size 66 4 u ((askL q l i).length + 1) (akCs (askL q l i) ++ [.int .i64 qc, .int .i64 qk, .int .i64 i, .int .i64 r])
      have hKB : ∀ x y, Below x.heap.size x y → K x y := fun _ _ hb => grown_of_below hb
      have hJB : ∀ b x y, J b x → Below x.heap.size x y → J b y := fun b x y hj hb => by
        cases b with
        | none => exact own_belowR hj hb
        | some u => exact own_belowR hj hb
      refine wp_region_relJ 11 50 R K J (by kernel_rfl) (by kernel_rfl) (by kernel_rfl) (by kernel_rfl) (by kernel_rfl) (fun _ _ _ h1 h2 => gtrans h1 h2) (hKB _ _ (Below.refl _ _).drew) HOWN.out.drew ?mono8 ?step8 ?fin8
      case mono8 =>
        intro sl u wx wy h hk
        match sl with
        | 49 =>
          obtain ⟨b, h1, h2, h3⟩ := h
          refine ⟨b, h1, h2, h3.grown hk fun e => ?_⟩
          have := (HRL.out b e.symm).2
          have := HBb.out.size
          omega
        | 0 | 1 | 2 | 3 | 4 | 5 | 6 | 7 | 8 | 9 | 10 | 11 | 12 | 13 | 14 | 15 | 16 | 17 | 18 | 19 | 20 | 21 | 22 | 23 | 24 | 25 | 26 | 27 | 28 | 29 | 30 | 31 | 32 | 33 | 34 | 35 | 36 | 37 | 38 | 39 | 40 | 41 | 42 | 43 | 44 | 45 | 46 | 47 | 48 | 50 | _ + 51 => exact h
      case fin8 =>
        intro ff w9 hk hj hr
        have hown : w9.ownsRow W2.heap.size 66 4 (ff 50) ((askL q l i).length + 1) (akCs (askL q l i) ++ [.int .i64 qc, .int .i64 qk, .int .i64 i, .int .i64 r]) := hj
        obtain ⟨a9, c9, e50⟩ := own_form hown
        rw [e50] at hown
        have OW9 : Hid (w9.ownsRow W2.heap.size 66 4 (.slice a9 (askL q l (i + 1)).length c9) (askL q l (i + 1)).length (akCs (askL q l (i + 1)))) := hide (by
          rw [HAS2.out, List.length_append, akCs_app]
          exact hown)
        have HB9 := hide (HBb.out.grown hk hW2b (fun g e => (HRL.out g e).1))
        have HLN := hide (show (askL q l i).length + 1 = (askL q l (i + 1)).length by rw [HAS2.out]; simp)
        clear hr hj hown hk hKB hJB
        simp only [putAll, slotsOf, List.take, List.drop, List.filterMap_cons, List.filterMap_nil, List.foldl_cons, List.foldl_nil, Act.put, e50]
        simp only [List.setIfInBounds_toArray, List.set_cons_succ, List.set_cons_zero]
        go_wp2_with fail
        go_roundw
        case rel => exact ⟨i + 1, a9, c9, by omega, by go_num, by rw [← HLN.out], OW9, HB9⟩
        case measure => simp [RowKit.intOf] <;> omega
      case step8 =>
        intro op hop
        simp only [List.take, List.mem_cons, List.not_mem_nil, or_false] at hop
        rcases hop with rfl | rfl | rfl | rfl | rfl | rfl | rfl | rfl | rfl | rfl | rfl
        · refine ⟨fun h => absurd h (by decide), fun _ b => stepJ_of hKB hJB fun a w1 hk hj hsm hr => ?_⟩
          have e8 : a.tmps.getD 8 undef = .slice V (askL q l i).length vc := hsm 8 (by decide)
          rw [Array.getD_eq_getD_getElem?] at e8
          unfold Oper.wp
          simp only [execOp, Act.eval, Array.getD_eq_getD_getElem?, e8]
          go_simp
          exact ⟨_, rfl, rfl, Below.refl _ _⟩
        · refine ⟨fun h => absurd h (by decide), fun _ b => stepJ_of hKB hJB fun a w1 hk hj hsm hr => ?_⟩
          have e10 : a.tmps.getD 10 undef = .pointer (some ⟨wr.heap.size, 0, none⟩) := hsm 10 (by decide)
          have b9 := HAB.out.grown hk hneA
          have cc0 := b9.cell 0
          have cc1 := b9.cell 1
          rw [Array.getD_eq_getD_getElem?] at e10
          unfold Oper.wp
          simp only [execOp, Act.eval, Array.getD_eq_getD_getElem?, e10]
          go_simp
          exact ⟨_, rfl, rfl, Below.refl _ _⟩
        · refine ⟨fun h => absurd h (by decide), fun _ b => stepJ_of hKB hJB fun a w1 hk hj hsm hr => ?_⟩
          have e9 : a.tmps.getD 9 undef = .int .i64 i := hsm 9 (by decide)
          rw [Array.getD_eq_getD_getElem?] at e9
          unfold Oper.wp
          simp only [execOp, Act.eval, Array.getD_eq_getD_getElem?, e9]
          go_simp
          exact ⟨_, rfl, rfl, Below.refl _ _⟩
        · refine ⟨fun h => absurd h (by decide), fun _ b => stepJ_of hKB hJB fun a w1 hk hj hsm hr => ?_⟩
          have e3 : a.tmps.getD 3 undef = .pointer (some ⟨w.heap.size, 0, none⟩) := hsm 3 (by decide)
          rw [Array.getD_eq_getD_getElem?] at e3
          unfold Oper.wp
          simp only [execOp, Act.eval, Array.getD_eq_getD_getElem?, e3]
          go_simp
          exact ⟨_, rfl, rfl, Below.refl _ _⟩
        · refine ⟨fun h => absurd h (by decide), fun _ b => stepJ_of hKB hJB fun a w1 hk hj hsm hr => ?_⟩
          have e43 : a.tmps.getD 43 undef = .pointer (some ⟨w.heap.size, 1, none⟩) := hr 43 (by decide) (by apply Array.mem_toList_iff.1; repeat (first | exact List.Mem.head _ | apply List.Mem.tail))
          have b9 := HGBb.out.grown hk hneG
          have cc1 : w1.cell? ⟨w.heap.size, 1, none⟩ = some (.slice (some ad) l.length cap) := b9.cell 1
          rw [Array.getD_eq_getD_getElem?] at e43
          unfold Oper.wp
          simp only [execOp, Act.eval, Array.getD_eq_getD_getElem?, e43]
          go_simp
          exact ⟨_, rfl, rfl, Below.refl _ _⟩
        · refine ⟨fun h => absurd h (by decide), fun _ b => stepJ_of hKB hJB fun a w1 hk hj hsm hr => ?_⟩
          have e9 : a.tmps.getD 9 undef = .int .i64 i := hsm 9 (by decide)
          rw [Array.getD_eq_getD_getElem?] at e9
          unfold Oper.wp
          simp only [execOp, Act.eval, Array.getD_eq_getD_getElem?, e9]
          go_simp
          exact ⟨_, rfl, rfl, Below.refl _ _⟩
        · refine ⟨fun h => absurd h (by decide), fun _ b => stepJ_of hKB hJB fun a w1 hk hj hsm hr => ?_⟩
          have e44 : a.tmps.getD 44 undef = .slice (some ad) l.length cap := hr 44 (by decide) (by apply Array.mem_toList_iff.1; repeat (first | exact List.Mem.head _ | apply List.Mem.tail))
          have e45 : a.tmps.getD 45 undef = .int .i64 i := hr 45 (by decide) (by apply Array.mem_toList_iff.1; repeat (first | exact List.Mem.head _ | apply List.Mem.tail))
          rw [Array.getD_eq_getD_getElem?] at e44
          rw [Array.getD_eq_getD_getElem?] at e45
          unfold Oper.wp
          simp only [execOp, Act.eval, Array.getD_eq_getD_getElem?, e44, e45]
          go_simp
          exact ⟨_, rfl, rfl, Below.refl _ _⟩
        · refine ⟨fun h => absurd h (by decide), fun _ b => stepJ_of hKB hJB fun a w1 hk hj hsm hr => ?_⟩
          have e46 : a.tmps.getD 46 undef = .pointer (some (ad.add i)) := hr 46 (by decide) (by apply Array.mem_toList_iff.1; repeat (first | exact List.Mem.head _ | apply List.Mem.tail))
          have cc0 : w1.cell? (ad.add i) = some (.int .i64 r) := HRK.out w1 hk
          rw [Array.getD_eq_getD_getElem?] at e46
          unfold Oper.wp
          simp only [execOp, Act.eval, Array.getD_eq_getD_getElem?, e46]
          go_simp
          exact ⟨_, rfl, rfl, Below.refl _ _⟩
        · refine ⟨fun h => absurd h (by decide), fun _ b => stepJ_of hKB hJB fun a w1 hk hj hsm hr => ?_⟩
          have e41 : a.tmps.getD 41 undef = .agg #[.int .i64 qc, .int .i64 qk] := hr 41 (by decide) (by apply Array.mem_toList_iff.1; repeat (first | exact List.Mem.head _ | apply List.Mem.tail))
          have e42 : a.tmps.getD 42 undef = .int .i64 i := hr 42 (by decide) (by apply Array.mem_toList_iff.1; repeat (first | exact List.Mem.head _ | apply List.Mem.tail))
          have e47 : a.tmps.getD 47 undef = .int .i64 r := hr 47 (by decide) (by apply Array.mem_toList_iff.1; repeat (first | exact List.Mem.head _ | apply List.Mem.tail))
          rw [Array.getD_eq_getD_getElem?] at e41
          rw [Array.getD_eq_getD_getElem?] at e42
          rw [Array.getD_eq_getD_getElem?] at e47
          unfold Oper.wp
          simp only [execOp, Act.eval, Array.getD_eq_getD_getElem?, e41, e42, e47]
          go_simp
          exact ⟨_, rfl, rfl, Below.refl _ _⟩
        · refine ⟨fun h => absurd h (by decide), fun _ b => stepJ_of hKB hJB fun a w1 hk hj hsm hr => ?_⟩
          have e48 : a.tmps.getD 48 undef = .agg #[.int .i64 qc, .int .i64 qk, .int .i64 i, .int .i64 r] := hr 48 (by decide) (by apply Array.mem_toList_iff.1; repeat (first | exact List.Mem.head _ | apply List.Mem.tail))
          have hsz := hk.size
          rw [Array.getD_eq_getD_getElem?] at e48
          unfold Oper.wp
          simp only [execOp, Act.eval, Array.getD_eq_getD_getElem?, e48]
          go_simp
          exact ⟨_, rfl, ⟨w1.heap.size, rfl, hsz, Blk.new w1 66 _⟩, (Below.refl _ _).alloc (Nat.le_refl _) _⟩
        · refine ⟨fun _ a w1 hk hj hsm hr => ?_, fun h => absurd rfl h⟩
          have e40 : a.tmps.getD 40 undef = .slice V (askL q l i).length vc := hr 40 (by decide) (by apply Array.mem_toList_iff.1; repeat (first | exact List.Mem.head _ | apply List.Mem.tail))
          have e49 : ∃ b, a.tmps.getD 49 undef = .slice (some ⟨b, 0, none⟩) 1 1 ∧ wb.heap.size ≤ b ∧ Blk w1 b 66 #[.int .i64 qc, .int .i64 qk, .int .i64 i, .int .i64 r] := hr 49 (by decide) (by apply Array.mem_toList_iff.1; repeat (first | exact List.Mem.head _ | apply List.Mem.tail))
          obtain ⟨b, e49', hb, hbb⟩ := e49
          have hj : w1.ownsRow W2.heap.size 66 4 (.slice V (askL q l i).length vc) (askL q l i).length (akCs (askL q l i)) := hj
          have hrd : Reads w1 w1.heap.size 4 (some ⟨b, 0, none⟩) 1 [.int .i64 qc, .int .i64 qk, .int .i64 i, .int .i64 r] := ⟨rfl, fun _ => ⟨_, rfl, hbb.lt, fun j u hu => by rw [add_lit, hbb.cell]; simpa using hu⟩⟩
          obtain ⟨i0, hi0, hz0, hz1, hz2⟩ := info_parts ak_info
          obtain ⟨v', w'', hrun, hown', hgb, _⟩ := run_append_any (P := Tryd.prog) w1 W2.heap.size 64 64 66 i0 _ 4 32 Tryd.underlying64 hi0 hz0 hz1 hz2 (by rfl) (by omega) _ _ _ hj w1.heap.size (some ⟨b, 0, none⟩) 1 1 _ hrd (by intro u hu; simp only [List.mem_cons, List.not_mem_nil, or_false] at hu; rcases hu with rfl | rfl | rfl | rfl <;> rfl) (by unfold maxLen; omega) (by omega) (by have := hk.size; omega)
          rw [hrow] at hgb
          exact Lib.wp_append_run w1 (.tmp 40) (.tmp 49) 64 64 rfl _ _ e40 e49' v' w'' hrun ⟨v', rfl, fun t ht => by cases ht; exact True.intro, hgb, hown'⟩
    have hltI : ¬ (i : Int) < (q.length : Int) := by omega
    have hie : i = q.length := by omega
    rw [hie] at OW ⊢
    clear hie hlt hltI hi
    obtain ⟨L, hL⟩ : ∃ x, askL q l q.length = x := ⟨_, rfl⟩
    rw [hL] at OW ⊢
    have hLn : L.length ≤ 1000 := by rw [← hL]; have := askL_len q l q.length; omega
    have HL := hide hL
    clear hL
    have SR := hide (sort_row V vc L wr W2.heap.size OW.out hLn)
    go_wp2_with fail
    refine SR.out.mono ?_
    rintro e W4 ⟨L', rfl, hperm, hsrt, hak, hgr⟩
    have hlen : L'.length = L.length := hperm.length_eq
    have HB4 := hide (HB.out.grown hgr HB.out.size (fun g e => (own_block OW.out e).1))
    have HAK := hide hak
    have HPERM := hide hperm
    have HSRT := hide hsrt
    have HGB4 := hide (GB2.out.below HB4.out GB2.out.lt)
    have HS4 := hide (show w.heap.size < W4.heap.size by have := HS2.out; have := HB4.out.size; omega)
    rw [← hlen] at hLn
    rw [← hlen]
    clear hgr hak hperm hsrt hlen SR OW HB
    go_wp2_with fail
    go_loopw [11, 56] (fun vo vi wr => ∃ (i : Nat) (O : Option Addr) (oc : Nat) (gs : List Gw), i ≤ L'.length ∧ vi = .int .i64 i ∧ vo = .slice O gs.length oc ∧ Hid (OutA (keyK key k) wr W4.heap.size O oc gs) ∧ Hid (gs.map Gw.p = grpN L' i) ∧ Hid (LastC gs L' i) ∧ Hid (Below W4.heap.size W4 wr)) (fun _ vi _ => L'.length - (RowKit.intOf vi).toNat)
    case atStart => exact ⟨0, none, 0, [], by omega, rfl, rfl, hide (OutA.nil _ _), hide rfl, hide (fun h => absurd h (Nat.lt_irrefl 0)), hide (Below.refl _ _)⟩
    case round =>
      obtain ⟨i, O, oc, gs, hi, rfl, rfl, OT0, HGS, HLC, HB0⟩ := hrel
      rename World => wr
      by_cases hlt : i < L'.length
      rotate_left
      · have hltI : ¬ (i : Int) < (L'.length : Int) := by omega
        have hie : i = L'.length := by omega
        have HGS2 := hide (show gs.map Gw.p = grpN L' L'.length by rw [← hie]; exact HGS.out)
        go_wp2_with fail
        go_ret2
        exact ⟨.inr ⟨GOOD.out, L', O, oc, gs, W4.heap.size, rfl, by rw [HL.out]; exact HPERM.out, HSRT.out, HGS2.out, OT0.out, Nat.le_of_lt HS4.out⟩, (HB2.out.trans (HB4.out.mono (Nat.le_of_lt HS2.out))).trans (HB0.out.mono (Nat.le_of_lt HS4.out))⟩
      have hltI : (i : Int) < (L'.length : Int) := by omega
      obtain ⟨g, hV, hglt, c0, c1, c2, c3⟩ := (HAK.out.below HB0.out) i hlt
      subst hV
      obtain ⟨x, hx⟩ : ∃ x, L'[i] = x := ⟨_, rfl⟩
      rw [hx] at c0 c1 c2 c3
      have HX := hide hx
      have HXC := hide (show 0 ≤ x.c ∧ x.c ≤ 9223372036854775807 by
        have hm : x ∈ L' := by rw [← hx]; exact List.getElem_mem hlt
        have hm2 : x ∈ askL q l q.length := by rw [HL.out]; exact HPERM.out.mem_iff.1 hm
        obtain ⟨h0, y, hy, he⟩ := ask_mem (l := l) q.length (Nat.le_refl _) x hm2
        exact ⟨h0, he ▸ HCI.out y hy⟩)
      have HGL0 := hide (gs_len HGS.out (Nat.le_of_lt hlt))
      have HGN0 := hide (show gs.length ≤ 1000 by have := HGL0.out.1; omega)
      have HGNA := hide (fun j (hj : j < gs.length) => show gs[j].rs.length ≤ 1000 by have := HGL0.out.2 j hj; omega)
      clear hx
      obtain ⟨xc, xk, xn, xr⟩ := x
      simp only at c0 c1 c2 c3
      have HXC : Hid (0 ≤ xc ∧ xc ≤ 9223372036854775807) := HXC
      obtain ⟨hbk, hbx⟩ := box4 wr 66 (.int .i64 0) (.int .i64 0) (.int .i64 0) (.int .i64 0) (.int .i64 xc) (.int .i64 xk) (.int .i64 xn) (.int .i64 xr)
      have bz := Blk.new wr 66 #[.int .i64 0, .int .i64 0, .int .i64 0, .int .i64 0]
      obtain ⟨wa, hwa⟩ : ∃ x, wr.alloc (.cells #[.int .i64 0, .int .i64 0, .int .i64 0, .int .i64 0] 66) = x := ⟨_, rfl⟩
      rw [hwa] at hbk hbx bz
      have z0 : wa.cell? ⟨wr.heap.size, 0, none⟩ = some (.int .i64 0) := bz.cell 0
      have z1 : wa.cell? ⟨wr.heap.size, 1, none⟩ = some (.int .i64 0) := bz.cell 1
      have z2 : wa.cell? ⟨wr.heap.size, 2, none⟩ = some (.int .i64 0) := bz.cell 2
      have z3 : wa.cell? ⟨wr.heap.size, 3, none⟩ = some (.int .i64 0) := bz.cell 3
      have f0 := bz.frozen 0
      have f1 := bz.frozen 1
      have f2 := bz.frozen 2
      have f3 := bz.frozen 3
      obtain ⟨wb, hwb⟩ : ∃ x, (((wa.setCell ⟨wr.heap.size, 0, none⟩ (.int .i64 xc)).setCell ⟨wr.heap.size, 1, none⟩ (.int .i64 xk)).setCell ⟨wr.heap.size, 2, none⟩ (.int .i64 xn)).setCell ⟨wr.heap.size, 3, none⟩ (.int .i64 xr) = x := ⟨_, rfl⟩
      rw [hwb] at hbk hbx
      have bx0 : wb.cell? ⟨wr.heap.size, 0, none⟩ = some (.int .i64 xc) := hbk.cell 0
      have HOTB := hide (fun n => show OutA (keyK key k) (wb.drewN n) W4.heap.size O oc gs from OT0.out.below (below_drewN hbx n))
      have HAQB := hide (fun n => show Blk (wb.drewN n) wr.heap.size 66 #[.int .i64 xc, .int .i64 xk, .int .i64 xn, .int .i64 xr] from hbk.drewN n)
      have HBQB := hide (fun n => show Below W4.heap.size W4 (wb.drewN n) from below_drewN (HB0.out.trans (hbx.mono HB0.out.size)) n)
      have HGBB := hide (fun n => show Blk (wb.drewN n) w.heap.size 24 #[.string key, .slice A l.length cap] from HGB4.out.below (HBQB.out n) HS4.out)
      have HBX := hide hbx
      clear hbk hbx bz
      by_cases hi0 : i = 0
      · have hd0 : ((i : Int) == 0) = true := by rw [hi0]; rfl
        have NEWC := hide (show i = 0 ∨ ∃ m, gs.length = m + 1 ∧ (gs.getD m default).c ≠ xc from .inl hi0)
        clear hi0
        go_wp2_with fail
        clear z0 z1 z2 z3 f0 f1 f2 f3 hwa hwb
        go_quiet (fail)
        rename Nat => nq
        have OT := hide (HOTB.out nq)
        have HAQ := hide (HAQB.out nq)
        have HBQ := hide (HBQB.out nq)
        have HGBQ := hide (HGBB.out nq)
        obtain ⟨wq, hwq⟩ : ∃ X, wb.drewN nq = X := ⟨_, rfl⟩
        rw [hwq] at OT HAQ HBQ HGBQ ⊢
        clear hwq HOTB HAQB HBQB HGBB c0 c1 c2 c3
        have HW4 := hide (show W4.heap.size ≤ wq.heap.size from HBQ.out.size)
        -- a new group
        obtain ⟨row, hrow⟩ : ∃ x, (Value.slice O gs.length oc).ownBlock = x := ⟨_, rfl⟩
        have HRL0 := hide (fun (g : Nat) (e : row = some g) => (own_block OT.out.row (hrow.trans e)))
        have hneG : some w.heap.size ≠ row := fun e => by have := (HRL0.out w.heap.size e.symm).1; have := HS4.out; omega
        have hneB : some wr.heap.size ≠ row := fun e => own_blk_ne OT.out.row HAQ.out (by decide) (hrow.trans e.symm)
        have HKB := hide (fun (w1 : World) (hk : wq.grownBy w1 row) => (show Below w.heap.size w w1 from (HB2.out.trans (HB4.out.mono (Nat.le_of_lt HS2.out))).trans ((HBQ.out.grown hk HBQ.out.size (fun g e => (HRL0.out g e).1)).mono (Nat.le_of_lt HS4.out))))
        have BC := hide (fun (w1 : World) (hb : Below w.heap.size w w1) => behind_c key A l.length cap k w1 (by omega) hki (HP.out.below hb (Nat.le_refl _)) (by omega))
        have IC := hide (fun (w1 : World) (hb : Below w.heap.size w w1) => itoa_a xc w1 (by have := HXC.out.1; omega) HXC.out.2 (HP.out.below hb (Nat.le_refl _)))
        have sz0 : (behindS key k).size ≤ 1100 := by
          have := itoa_length_le k (by omega) hki
          unfold behindS
          rw [ByteArray.size_append, ByteArray.size_append, bytes_size, bytes_size]
          simp only [List.length_cons, List.length_nil]
          omega
        have sz1 : ¬ 9223372036854775807 < (behindS key k).size + 1 := by omega
        have sz2 : ¬ 9223372036854775807 < (behindS key k).size + (bytes [58]).size + (bytes (itoa xc)).size := by
          have := itoa_length_le xc (by have := HXC.out.1; omega) HXC.out.2
          rw [bytes_size, bytes_size]
          simp only [List.length_cons, List.length_nil]
          omega
        go_wp2_with fail
        let K : World → World → Prop := fun a b => a.grownBy b row
        let R : Nat → Value → World → Prop := fun sl u w1 => match sl with
          | 76 => u = .slice O gs.length oc
          | 77 => u = .agg #[.string key, .slice A l.length cap]
          | 78 => u = .int .i64 k
          | 79 => u = .string (behindS key k)
          | 80 => u = .string (behindS key k ++ bytes [58])
          | 81 => u = .pointer (some ⟨wr.heap.size, 0, none⟩)
          | 82 => u = .pointer (some ⟨wr.heap.size, 0, none⟩)
          | 83 => u = .int .i64 xc
          | 84 => u = .string (bytes (itoa xc))
          | 85 => u = .string (keyK key k xc)
          | 86 => u = .agg #[.string (keyK key k xc), .slice none 0 0]
          | 87 => ∃ b, u = .slice (some ⟨b, 0, none⟩) 1 1 ∧ wq.heap.size ≤ b ∧ Blk w1 b 24 #[.string (keyK key k xc), .slice none 0 0]
          | _ => True
        let J : Option Value → World → Prop := fun b w1 => match b with
          | none => w1.ownsRow W4.heap.size 24 2 (.slice O gs.length oc) gs.length (gwCs (keyK key k) gs)
          | some u => w1.ownsRow W4.heap.size 24 2 u (gs.length + 1) (gwCs (keyK key k) gs ++ [.string (keyK key k xc), .slice none 0 0])
        have hKB : ∀ x y, Below x.heap.size x y → K x y := fun _ _ hb => grown_of_below hb
        have hJB : ∀ b x y, J b x → Below x.heap.size x y → J b y := fun b x y hj hb => by
          cases b with
          | none => exact own_belowR hj hb
          | some u => exact own_belowR hj hb
        refine wp_region_relJ 13 88 R K J (by kernel_rfl) (by kernel_rfl) (by kernel_rfl) (by kernel_rfl) (by kernel_rfl) (fun _ _ _ h1 h2 => gtrans h1 h2) (hKB _ _ (Below.refl _ _).drew) OT.out.row.drew ?mono16a ?step16a ?fin16a
        case mono16a =>
          intro sl u wx wy h hk
          match sl with
          | 87 =>
            obtain ⟨b, h1, h2, h3⟩ := h
            refine ⟨b, h1, h2, h3.grown hk fun e => ?_⟩
            have := (HRL0.out b e.symm).2.1
            omega
          | 0 | 1 | 2 | 3 | 4 | 5 | 6 | 7 | 8 | 9 | 10 | 11 | 12 | 13 | 14 | 15 | 16 | 17 | 18 | 19 | 20 | 21 | 22 | 23 | 24 | 25 | 26 | 27 | 28 | 29 | 30 | 31 | 32 | 33 | 34 | 35 | 36 | 37 | 38 | 39 | 40 | 41 | 42 | 43 | 44 | 45 | 46 | 47 | 48 | 49 | 50 | 51 | 52 | 53 | 54 | 55 | 56 | 57 | 58 | 59 | 60 | 61 | 62 | 63 | 64 | 65 | 66 | 67 | 68 | 69 | 70 | 71 | 72 | 73 | 74 | 75 | 76 | 77 | 78 | 79 | 80 | 81 | 82 | 83 | 84 | 85 | 86 | _ + 88 => exact h
        case step16a =>
          intro op hop
          simp only [List.take, List.mem_cons, List.not_mem_nil, or_false] at hop
          rcases hop with rfl | rfl | rfl | rfl | rfl | rfl | rfl | rfl | rfl | rfl | rfl | rfl | rfl
          · refine ⟨fun h => absurd h (by decide), fun _ b => stepJ_of hKB hJB fun a w1 hk hj hsm hr => ?_⟩
            have e11 : a.tmps.getD 11 undef = .slice O gs.length oc := hsm 11 (by decide)
            rw [Array.getD_eq_getD_getElem?] at e11
            unfold Oper.wp
            simp only [execOp, Act.eval, Array.getD_eq_getD_getElem?, e11]
            go_simp
            exact ⟨_, rfl, rfl, Below.refl _ _⟩
          · refine ⟨fun h => absurd h (by decide), fun _ b => stepJ_of hKB hJB fun a w1 hk hj hsm hr => ?_⟩
            have e3 : a.tmps.getD 3 undef = .pointer (some ⟨w.heap.size, 0, none⟩) := hsm 3 (by decide)
            have b9 := HGBQ.out.grown hk hneG
            have cc0 := b9.cell 0
            have cc1 := b9.cell 1
            rw [Array.getD_eq_getD_getElem?] at e3
            unfold Oper.wp
            simp only [execOp, Act.eval, Array.getD_eq_getD_getElem?, e3]
            go_simp
            exact ⟨_, rfl, rfl, Below.refl _ _⟩
          · refine ⟨fun h => absurd h (by decide), fun _ b => stepJ_of hKB hJB fun a w1 hk hj hsm hr => ?_⟩
            have e1 : a.tmps.getD 1 undef = .int .i64 k := hsm 1 (by decide)
            rw [Array.getD_eq_getD_getElem?] at e1
            unfold Oper.wp
            simp only [execOp, Act.eval, Array.getD_eq_getD_getElem?, e1]
            go_simp
            exact ⟨_, rfl, rfl, Below.refl _ _⟩
          · refine ⟨fun h => absurd h (by decide), fun _ b => stepJ_of hKB hJB fun a w1 hk hj hsm hr => ?_⟩
            have e77 : a.tmps.getD 77 undef = .agg #[.string key, .slice A l.length cap] := hr 77 (by decide) (by apply Array.mem_toList_iff.1; repeat (first | exact List.Mem.head _ | apply List.Mem.tail))
            have e78 : a.tmps.getD 78 undef = .int .i64 k := hr 78 (by decide) (by apply Array.mem_toList_iff.1; repeat (first | exact List.Mem.head _ | apply List.Mem.tail))
            rw [Array.getD_eq_getD_getElem?] at e77
            rw [Array.getD_eq_getD_getElem?] at e78
            unfold Oper.wp
            simp only [execOp, Act.eval, Array.getD_eq_getD_getElem?, e77, e78]
            go_simp
            refine (BC.out w1 (HKB.out w1 hk)).mono ?_
            rintro e w9 ⟨rfl, hb9⟩
            exact ⟨_, rfl, rfl, hb9⟩
          · refine ⟨fun h => absurd h (by decide), fun _ b => stepJ_of hKB hJB fun a w1 hk hj hsm hr => ?_⟩
            have e79 : a.tmps.getD 79 undef = .string (behindS key k) := hr 79 (by decide) (by apply Array.mem_toList_iff.1; repeat (first | exact List.Mem.head _ | apply List.Mem.tail))
            rw [Array.getD_eq_getD_getElem?] at e79
            unfold Oper.wp
            simp only [execOp, Act.eval, Array.getD_eq_getD_getElem?, e79]
            go_simp
            exact ⟨_, rfl, rfl, Below.refl _ _⟩
          · refine ⟨fun h => absurd h (by decide), fun _ b => stepJ_of hKB hJB fun a w1 hk hj hsm hr => ?_⟩
            have e13 : a.tmps.getD 13 undef = .pointer (some ⟨wr.heap.size, 0, none⟩) := hsm 13 (by decide)
            rw [Array.getD_eq_getD_getElem?] at e13
            unfold Oper.wp
            simp only [execOp, Act.eval, Array.getD_eq_getD_getElem?, e13]
            go_simp
            exact ⟨_, rfl, rfl, Below.refl _ _⟩
          · refine ⟨fun h => absurd h (by decide), fun _ b => stepJ_of hKB hJB fun a w1 hk hj hsm hr => ?_⟩
            have e81 : a.tmps.getD 81 undef = .pointer (some ⟨wr.heap.size, 0, none⟩) := hr 81 (by decide) (by apply Array.mem_toList_iff.1; repeat (first | exact List.Mem.head _ | apply List.Mem.tail))
            rw [Array.getD_eq_getD_getElem?] at e81
            unfold Oper.wp
            simp only [execOp, Act.eval, Array.getD_eq_getD_getElem?, e81]
            go_simp
            exact ⟨_, rfl, rfl, Below.refl _ _⟩
          · refine ⟨fun h => absurd h (by decide), fun _ b => stepJ_of hKB hJB fun a w1 hk hj hsm hr => ?_⟩
            have e82 : a.tmps.getD 82 undef = .pointer (some ⟨wr.heap.size, 0, none⟩) := hr 82 (by decide) (by apply Array.mem_toList_iff.1; repeat (first | exact List.Mem.head _ | apply List.Mem.tail))
            have cc0 : w1.cell? ⟨wr.heap.size, 0, none⟩ = some (.int .i64 xc) := (HAQ.out.grown hk hneB).cell 0
            rw [Array.getD_eq_getD_getElem?] at e82
            unfold Oper.wp
            simp only [execOp, Act.eval, Array.getD_eq_getD_getElem?, e82]
            go_simp
            exact ⟨_, rfl, rfl, Below.refl _ _⟩
          · refine ⟨fun h => absurd h (by decide), fun _ b => stepJ_of hKB hJB fun a w1 hk hj hsm hr => ?_⟩
            have e83 : a.tmps.getD 83 undef = .int .i64 xc := hr 83 (by decide) (by apply Array.mem_toList_iff.1; repeat (first | exact List.Mem.head _ | apply List.Mem.tail))
            rw [Array.getD_eq_getD_getElem?] at e83
            unfold Oper.wp
            simp only [execOp, Act.eval, Array.getD_eq_getD_getElem?, e83]
            go_simp
            refine (IC.out w1 (HKB.out w1 hk)).mono ?_
            rintro e w9 ⟨rfl, hb9⟩
            exact ⟨_, rfl, rfl, hb9⟩
          · refine ⟨fun h => absurd h (by decide), fun _ b => stepJ_of hKB hJB fun a w1 hk hj hsm hr => ?_⟩
            have e80 : a.tmps.getD 80 undef = .string (behindS key k ++ bytes [58]) := hr 80 (by decide) (by apply Array.mem_toList_iff.1; repeat (first | exact List.Mem.head _ | apply List.Mem.tail))
            have e84 : a.tmps.getD 84 undef = .string (bytes (itoa xc)) := hr 84 (by decide) (by apply Array.mem_toList_iff.1; repeat (first | exact List.Mem.head _ | apply List.Mem.tail))
            rw [Array.getD_eq_getD_getElem?] at e80
            rw [Array.getD_eq_getD_getElem?] at e84
            unfold Oper.wp
            simp only [execOp, Act.eval, Array.getD_eq_getD_getElem?, e80, e84]
            go_simp
            exact ⟨_, rfl, rfl, Below.refl _ _⟩
          · refine ⟨fun h => absurd h (by decide), fun _ b => stepJ_of hKB hJB fun a w1 hk hj hsm hr => ?_⟩
            have e85 : a.tmps.getD 85 undef = .string (keyK key k xc) := hr 85 (by decide) (by apply Array.mem_toList_iff.1; repeat (first | exact List.Mem.head _ | apply List.Mem.tail))
            rw [Array.getD_eq_getD_getElem?] at e85
            unfold Oper.wp
            simp only [execOp, Act.eval, Array.getD_eq_getD_getElem?, e85]
            go_simp
            exact ⟨_, rfl, rfl, Below.refl _ _⟩
          · refine ⟨fun h => absurd h (by decide), fun _ b => stepJ_of hKB hJB fun a w1 hk hj hsm hr => ?_⟩
            have e86 : a.tmps.getD 86 undef = .agg #[.string (keyK key k xc), .slice none 0 0] := hr 86 (by decide) (by apply Array.mem_toList_iff.1; repeat (first | exact List.Mem.head _ | apply List.Mem.tail))
            have hsz := hk.size
            rw [Array.getD_eq_getD_getElem?] at e86
            unfold Oper.wp
            simp only [execOp, Act.eval, Array.getD_eq_getD_getElem?, e86]
            go_simp
            exact ⟨_, rfl, ⟨w1.heap.size, rfl, hsz, Blk.new w1 24 _⟩, (Below.refl _ _).alloc (Nat.le_refl _) _⟩
          · refine ⟨fun _ a w1 hk hj hsm hr => ?_, fun h => absurd rfl h⟩
            have e76 : a.tmps.getD 76 undef = .slice O gs.length oc := hr 76 (by decide) (by apply Array.mem_toList_iff.1; repeat (first | exact List.Mem.head _ | apply List.Mem.tail))
            have e87 : ∃ b, a.tmps.getD 87 undef = .slice (some ⟨b, 0, none⟩) 1 1 ∧ wq.heap.size ≤ b ∧ Blk w1 b 24 #[.string (keyK key k xc), .slice none 0 0] := hr 87 (by decide) (by apply Array.mem_toList_iff.1; repeat (first | exact List.Mem.head _ | apply List.Mem.tail))
            obtain ⟨b, e87', hb, hbb⟩ := e87
            have hj : w1.ownsRow W4.heap.size 24 2 (.slice O gs.length oc) gs.length (gwCs (keyK key k) gs) := hj
            have hrd : Reads w1 w1.heap.size 2 (some ⟨b, 0, none⟩) 1 [.string (keyK key k xc), .slice none 0 0] := ⟨rfl, fun _ => ⟨_, rfl, hbb.lt, fun j u hu => by rw [add_lit, hbb.cell]; simpa using hu⟩⟩
            obtain ⟨i0, hi0, hz0, hz1, hz2⟩ := info_parts gr_info
            obtain ⟨v', w'', hrun, hown', hgb, _⟩ := run_append_any (P := Tryd.prog) w1 W4.heap.size 33 33 24 i0 _ 2 40 Tryd.underlying33 hi0 hz0 hz1 hz2 (by rfl) (by omega) _ _ _ hj w1.heap.size (some ⟨b, 0, none⟩) 1 1 _ hrd (by intro u hu; simp only [List.mem_cons, List.not_mem_nil, or_false] at hu; rcases hu with rfl | rfl <;> rfl) (by have := HGN0.out; unfold maxLen; omega) (by have := HGN0.out; omega) (by have := hk.size; have := HBQ.out.size; omega)
            rw [hrow] at hgb
            exact Lib.wp_append_run w1 (.tmp 76) (.tmp 87) 33 33 rfl _ _ e76 e87' v' w'' hrun ⟨v', rfl, fun t ht => by cases ht; exact True.intro, hgb, hown'⟩
        case fin16a =>
          intro ff wp9 hk hj hr
          have hk : wq.grownBy wp9 row := hk
          have hown : wp9.ownsRow W4.heap.size 24 2 (ff 88) (gs.length + 1) (gwCs (keyK key k) gs ++ [.string (keyK key k xc), .slice none 0 0]) := hj
          obtain ⟨ap, cp, e88⟩ := own_form hown
          rw [e88] at hown
          have OT9 := hide (OutA.push OT.out (by rw [← hrow] at hk; exact hk) hown)
          have HAQ9 := hide (HAQ.out.grown hk hneB)
          have HBQ9 := hide (HBQ.out.grown hk HBQ.out.size (fun g e => (HRL0.out g e).1))
          have HW49 := hide (show W4.heap.size ≤ wp9.heap.size from HBQ9.out.size)
          obtain ⟨gb, hgb9⟩ : ∃ y, ap = some ⟨y, 0, none⟩ := by
            obtain ⟨y, h9, _⟩ := own_cell hown (by omega)
            exact ⟨y, h9⟩
          subst hgb9
          clear hr hj hown hk hKB hJB hrow hneG hneB
          simp only [putAll, slotsOf, List.take, List.drop, List.filterMap_cons, List.filterMap_nil, List.foldl_cons, List.foldl_nil, Act.put, e88]
          simp only [List.setIfInBounds_toArray, List.set_cons_succ, List.set_cons_zero]
          -- the new group is the last one
          have HGL := hide (show (gs ++ [(⟨xc, none, 0, []⟩ : Gw)]).length = gs.length + 1 by simp)
          have HGM := hide (fun j (hj : j < (gs ++ [(⟨xc, none, 0, []⟩ : Gw)]).length) => show (gs ++ [(⟨xc, none, 0, []⟩ : Gw)])[j].rs.length ≤ 1000 by
            by_cases h9 : j < gs.length
            · rw [List.getElem_append_left h9]; exact HGNA.out j h9
            · rw [List.getElem_append_right (by omega)]; simp)
          have ENDN := hide (fun a9 c9 gc gA gcap grs hm hg => end_new (x := ⟨xc, xk, xn, xr⟩) HGS.out hlt HX.out NEWC.out a9 c9 gc gA gcap grs hm hg)
          simp only at ENDN
          obtain ⟨gs', hgs'⟩ : ∃ y, gs ++ [(⟨xc, none, 0, []⟩ : Gw)] = y := ⟨_, rfl⟩
          rw [hgs'] at OT9 HGL HGM ENDN
          clear hgs'
          obtain ⟨m, hm⟩ : ∃ m, gs.length = m := ⟨_, rfl⟩
          rw [hm] at HGL ENDN HGN0 ⊢
          have hgl : gs'.length = m + 1 := HGL.out
          have hm1000 : m ≤ 1000 := HGN0.out
          clear hm HGL
          -- the last group gets the rank
          have hmg : m < gs'.length := by omega
          obtain ⟨gl, hgl2⟩ : ∃ x, gs'[m]'hmg = x := ⟨_, rfl⟩
          have ROWM := OT9.out.rs m hmg
          have ADD := hide (fun (w9 : World) (a9 : Option Addr) (c9 : Nat) (r : Int) => OutA.add (r := r) (w9 := w9) (a9 := a9) (c9 := c9) OT9.out hmg)
          have hgn9 := HGM.out m hmg
          rw [hgl2] at ROWM ADD hgn9
          obtain ⟨gc, gA, gcap, grs⟩ := gl
          have HGN : Hid (grs.length ≤ 1000) := hide hgn9
          have ROWM : wp9.ownsRow W4.heap.size 3 1 (.slice gA grs.length gcap) grs.length (ints grs) := ROWM
          obtain ⟨o', hO, _, _, ⟨cso, hOb⟩, hOf, _, hOc⟩ := own_cell OT9.out.row (by omega)
          have hOo : o' = gb := by injection hO with h; injection h with h; exact h.symm
          subst hOo
          have HOB := hide hOb
          have hoc := hOc (m * 2 + 1) _ (gwCs_at (keyK key k) gs' m hmg).2
          rw [hgl2] at hoc
          have HOC : Hid (wp9.cell? ⟨o', m * 2 + 1, none⟩ = some (.slice gA grs.length gcap)) := hide hoc
          obtain ⟨row, hrow⟩ : ∃ x, (Value.slice gA grs.length gcap).ownBlock = x := ⟨_, rfl⟩
          have hneO : some o' ≠ row := fun e => own_blk_ne ROWM hOb (by decide) (hrow.trans e.symm)
          have hneB : some wr.heap.size ≠ row := fun e => own_blk_ne ROWM HAQ9.out (by decide) (hrow.trans e.symm)
          have HRL := hide (fun (g : Nat) (e : row = some g) => (own_block ROWM (hrow.trans e)))
          have HROWM := hide ROWM
          have HGL := hide hgl2
          clear hO hOb hOf hOc hoc ROWM hgl2 hgn9
          go_wp2_with fail
          let K : World → World → Prop := fun a b => a.grownBy b row
          let R : Nat → Value → World → Prop := fun sl u w1 => match sl with
            | 94 => u = .pointer (some ⟨o', m * 2, none⟩)
            | 95 => u = .pointer (some ⟨o', m * 2, none⟩)
            | 96 => u = .pointer (some ⟨o', m * 2, none⟩)
            | 97 => u = .pointer (some ⟨o', m * 2 + 1, none⟩)
            | 98 => u = .slice gA grs.length gcap
            | 99 => u = .pointer (some ⟨wr.heap.size, 3, none⟩)
            | 100 => u = .int .i64 xr
            | 103 => u = .pointer (some ⟨o', m * 2, none⟩)
            | 104 => u = .pointer (some ⟨o', m * 2 + 1, none⟩)
            | 101 => ∃ b, u = .slice (some ⟨b, 0, none⟩) 1 1 ∧ wp9.heap.size ≤ b ∧ Blk w1 b 3 #[.int .i64 xr]
            | _ => True
          let J : Option Value → World → Prop := fun b w1 => match b with
            | none => w1.ownsRow W4.heap.size 3 1 (.slice gA grs.length gcap) grs.length (ints grs)
            | some u => w1.ownsRow W4.heap.size 3 1 u (grs.length + 1) (ints grs ++ [.int .i64 xr]) ∧ ∀ g, u.ownBlock = some g → row = some g ∨ wp9.heap.size ≤ g
          have hKB : ∀ x y, Below x.heap.size x y → K x y := fun _ _ hb => grown_of_below hb
          have hJB : ∀ b x y, J b x → Below x.heap.size x y → J b y := fun b x y hj hb => by
            cases b with
            | none => exact own_belowR hj hb
            | some u => exact ⟨own_belowR hj.1 hb, hj.2⟩
          refine wp_region_relJ 11 102 R K J (by kernel_rfl) (by kernel_rfl) (by kernel_rfl) (by kernel_rfl) (by kernel_rfl) (fun _ _ _ h1 h2 => gtrans h1 h2) (hKB _ _ (Below.refl _ _).drew) HROWM.out.drew ?mono18a ?step18a ?fin18a
          case mono18a =>
            intro sl u wx wy h hk
            match sl with
            | 101 =>
              obtain ⟨b, h1, h2, h3⟩ := h
              refine ⟨b, h1, h2, h3.grown hk fun e => ?_⟩
              have := (HRL.out b e.symm).2.1
              omega
            | 0 | 1 | 2 | 3 | 4 | 5 | 6 | 7 | 8 | 9 | 10 | 11 | 12 | 13 | 14 | 15 | 16 | 17 | 18 | 19 | 20 | 21 | 22 | 23 | 24 | 25 | 26 | 27 | 28 | 29 | 30 | 31 | 32 | 33 | 34 | 35 | 36 | 37 | 38 | 39 | 40 | 41 | 42 | 43 | 44 | 45 | 46 | 47 | 48 | 49 | 50 | 51 | 52 | 53 | 54 | 55 | 56 | 57 | 58 | 59 | 60 | 61 | 62 | 63 | 64 | 65 | 66 | 67 | 68 | 69 | 70 | 71 | 72 | 73 | 74 | 75 | 76 | 77 | 78 | 79 | 80 | 81 | 82 | 83 | 84 | 85 | 86 | 87 | 88 | 89 | 90 | 91 | 92 | 93 | 94 | 95 | 96 | 97 | 98 | 99 | 100 | 102 | 103 | 104 | _ + 105 => exact h
          case fin18a =>
            intro ff w9 hk hj hr
            have hk : wp9.grownBy w9 row := hk
            obtain ⟨hown, hob⟩ : w9.ownsRow W4.heap.size 3 1 (ff 102) (grs.length + 1) (ints grs ++ [.int .i64 xr]) ∧ ∀ g, (ff 102).ownBlock = some g → row = some g ∨ wp9.heap.size ≤ g := hj
            have e104 : ff 104 = .pointer (some ⟨o', m * 2 + 1, none⟩) := hr 104 (by decide)
            obtain ⟨a9, c9, e102⟩ := own_form hown
            rw [e102] at hown hob
            have y0 : w9.cell? ⟨o', m * 2 + 1, none⟩ = some (.slice gA grs.length gcap) := (World.cell?_of_block (a := ⟨o', m * 2 + 1, none⟩) (hk.block o' HOB.out.lt hneO)).trans HOC.out
            have yf : w9.frozen? ⟨o', m * 2 + 1, none⟩ = false := (show Blk w9 o' 24 cso from (hk.block o' HOB.out.lt hneO).trans HOB.out).frozen _
            have OT9 := hide (ADD.out w9 a9 c9 xr (by rw [← hrow] at hk; exact hk) hown (fun g e => by rw [← hrow] at hob; exact hob g e))
            have HOG : Hid (W4.heap.size ≤ o') := hide (own_block OT9.out.row (g := o') rfl).1
            have HB9 := hide (((HBQ9.out.grown hk (by have := HBQ9.out.size; omega) (fun g e => (HRL.out g e).1))).setCell (p := ⟨o', m * 2 + 1, none⟩) HOG.out (.slice a9 (grs.length + 1) c9))
            clear hr hj hown hob hk hKB hJB
            simp only [putAll, slotsOf, List.take, List.drop, List.filterMap_cons, List.filterMap_nil, List.foldl_cons, List.foldl_nil, Act.put, e102, e104]
            simp only [List.setIfInBounds_toArray, List.set_cons_succ, List.set_cons_zero]
            have hset : (gs'.set m (⟨gc, a9, c9, grs ++ [xr]⟩ : Gw)).length = m + 1 := by rw [List.length_set]; exact hgl
            have HREL := hide (ENDN.out a9 c9 gc gA gcap grs hmg HGL.out)
            go_wp2_with fail
            go_roundw
            case rel => exact ⟨i + 1, some ⟨o', 0, none⟩, cp, gs'.set m ⟨gc, a9, c9, grs ++ [xr]⟩, by omega, by go_num, by rw [hset], OT9, hide HREL.out.1, hide HREL.out.2, HB9⟩
            case measure => simp [RowKit.intOf] <;> omega
          case step18a =>
            intro op hop
            simp only [List.take, List.mem_cons, List.not_mem_nil, or_false] at hop
            rcases hop with rfl | rfl | rfl | rfl | rfl | rfl | rfl | rfl | rfl | rfl | rfl
            · refine ⟨fun h => absurd h (by decide), fun _ b => stepJ_of hKB hJB fun a w1 hk hj hsm hr => ?_⟩
              have e14 : a.tmps.getD 14 undef = .pointer (some ⟨o', m * 2, none⟩) := hsm 14 (by decide)
              rw [Array.getD_eq_getD_getElem?] at e14
              unfold Oper.wp
              simp only [execOp, Act.eval, Array.getD_eq_getD_getElem?, e14]
              go_simp
              exact ⟨_, rfl, rfl, Below.refl _ _⟩
            · refine ⟨fun h => absurd h (by decide), fun _ b => stepJ_of hKB hJB fun a w1 hk hj hsm hr => ?_⟩
              have e14 : a.tmps.getD 14 undef = .pointer (some ⟨o', m * 2, none⟩) := hsm 14 (by decide)
              rw [Array.getD_eq_getD_getElem?] at e14
              unfold Oper.wp
              simp only [execOp, Act.eval, Array.getD_eq_getD_getElem?, e14]
              go_simp
              exact ⟨_, rfl, rfl, Below.refl _ _⟩
            · refine ⟨fun h => absurd h (by decide), fun _ b => stepJ_of hKB hJB fun a w1 hk hj hsm hr => ?_⟩
              have e95 : a.tmps.getD 95 undef = .pointer (some ⟨o', m * 2, none⟩) := hr 95 (by decide) (by apply Array.mem_toList_iff.1; repeat (first | exact List.Mem.head _ | apply List.Mem.tail))
              rw [Array.getD_eq_getD_getElem?] at e95
              unfold Oper.wp
              simp only [execOp, Act.eval, Array.getD_eq_getD_getElem?, e95]
              go_simp
              exact ⟨_, rfl, rfl, Below.refl _ _⟩
            · refine ⟨fun h => absurd h (by decide), fun _ b => stepJ_of hKB hJB fun a w1 hk hj hsm hr => ?_⟩
              have e96 : a.tmps.getD 96 undef = .pointer (some ⟨o', m * 2, none⟩) := hr 96 (by decide) (by apply Array.mem_toList_iff.1; repeat (first | exact List.Mem.head _ | apply List.Mem.tail))
              rw [Array.getD_eq_getD_getElem?] at e96
              unfold Oper.wp
              simp only [execOp, Act.eval, Array.getD_eq_getD_getElem?, e96]
              go_simp
              exact ⟨_, rfl, rfl, Below.refl _ _⟩
            · refine ⟨fun h => absurd h (by decide), fun _ b => stepJ_of hKB hJB fun a w1 hk hj hsm hr => ?_⟩
              have e97 : a.tmps.getD 97 undef = .pointer (some ⟨o', m * 2 + 1, none⟩) := hr 97 (by decide) (by apply Array.mem_toList_iff.1; repeat (first | exact List.Mem.head _ | apply List.Mem.tail))
              have b9 : Blk w1 o' 24 cso := (hk.block o' HOB.out.lt hneO).trans HOB.out
              have cc0 : w1.cell? ⟨o', m * 2 + 1, none⟩ = some (.slice gA grs.length gcap) := (World.cell?_of_block (a := ⟨o', m * 2 + 1, none⟩) (hk.block o' HOB.out.lt hneO)).trans HOC.out
              rw [Array.getD_eq_getD_getElem?] at e97
              unfold Oper.wp
              simp only [execOp, Act.eval, Array.getD_eq_getD_getElem?, e97]
              go_simp
              exact ⟨_, rfl, rfl, Below.refl _ _⟩
            · refine ⟨fun h => absurd h (by decide), fun _ b => stepJ_of hKB hJB fun a w1 hk hj hsm hr => ?_⟩
              have e13 : a.tmps.getD 13 undef = .pointer (some ⟨wr.heap.size, 0, none⟩) := hsm 13 (by decide)
              rw [Array.getD_eq_getD_getElem?] at e13
              unfold Oper.wp
              simp only [execOp, Act.eval, Array.getD_eq_getD_getElem?, e13]
              go_simp
              exact ⟨_, rfl, rfl, Below.refl _ _⟩
            · refine ⟨fun h => absurd h (by decide), fun _ b => stepJ_of hKB hJB fun a w1 hk hj hsm hr => ?_⟩
              have e99 : a.tmps.getD 99 undef = .pointer (some ⟨wr.heap.size, 3, none⟩) := hr 99 (by decide) (by apply Array.mem_toList_iff.1; repeat (first | exact List.Mem.head _ | apply List.Mem.tail))
              have cc0 : w1.cell? ⟨wr.heap.size, 3, none⟩ = some (.int .i64 xr) := (HAQ9.out.grown hk hneB).cell 3
              rw [Array.getD_eq_getD_getElem?] at e99
              unfold Oper.wp
              simp only [execOp, Act.eval, Array.getD_eq_getD_getElem?, e99]
              go_simp
              exact ⟨_, rfl, rfl, Below.refl _ _⟩
            · refine ⟨fun h => absurd h (by decide), fun _ b => stepJ_of hKB hJB fun a w1 hk hj hsm hr => ?_⟩
              have e100 : a.tmps.getD 100 undef = .int .i64 xr := hr 100 (by decide) (by apply Array.mem_toList_iff.1; repeat (first | exact List.Mem.head _ | apply List.Mem.tail))
              have hsz := hk.size
              rw [Array.getD_eq_getD_getElem?] at e100
              unfold Oper.wp
              simp only [execOp, Act.eval, Array.getD_eq_getD_getElem?, e100]
              go_simp
              exact ⟨_, rfl, ⟨w1.heap.size, rfl, hsz, Blk.new w1 3 _⟩, (Below.refl _ _).alloc (Nat.le_refl _) _⟩
            · refine ⟨fun _ a w1 hk hj hsm hr => ?_, fun h => absurd rfl h⟩
              have e98 : a.tmps.getD 98 undef = .slice gA grs.length gcap := hr 98 (by decide) (by apply Array.mem_toList_iff.1; repeat (first | exact List.Mem.head _ | apply List.Mem.tail))
              have e101 : ∃ b, a.tmps.getD 101 undef = .slice (some ⟨b, 0, none⟩) 1 1 ∧ wp9.heap.size ≤ b ∧ Blk w1 b 3 #[.int .i64 xr] := hr 101 (by decide) (by apply Array.mem_toList_iff.1; repeat (first | exact List.Mem.head _ | apply List.Mem.tail))
              obtain ⟨b, e101', hb, hbb⟩ := e101
              have hj : w1.ownsRow W4.heap.size 3 1 (.slice gA grs.length gcap) grs.length (ints grs) := hj
              have hrd : Reads w1 w1.heap.size 1 (some ⟨b, 0, none⟩) 1 [.int .i64 xr] := ⟨rfl, fun _ => ⟨_, rfl, hbb.lt, fun j u hu => by rw [add_lit, hbb.cell]; simpa using hu⟩⟩
              obtain ⟨i0, hi0, hz0, hz1, hz2⟩ := info_parts int_infoG
              obtain ⟨v', w'', hrun, hown', hgb, hob'⟩ := run_append_any (P := Tryd.prog) w1 W4.heap.size 22 22 3 i0 _ 1 8 Tryd.underlying22 hi0 hz0 hz1 hz2 (by rfl) (by omega) _ _ _ hj w1.heap.size (some ⟨b, 0, none⟩) 1 1 _ hrd (by intro u hu; rw [List.mem_singleton.1 hu]; rfl) (by have := HGN.out; unfold maxLen; omega) (by have := HGN.out; omega) (by have := hk.size; have := HW49.out; omega)
              rw [hrow] at hgb
              have hob2 : ∀ g, v'.ownBlock = some g → row = some g ∨ wp9.heap.size ≤ g := fun g e => by
                rcases hob' with h9 | h9
                · exact .inl (by rw [← hrow, ← h9]; exact e)
                · rw [h9] at e
                  injection e with e
                  have := hk.size
                  exact .inr (by omega)
              exact Lib.wp_append_run w1 (.tmp 98) (.tmp 101) 22 22 rfl _ _ e98 e101' v' w'' hrun ⟨v', rfl, fun t ht => by cases ht; exact True.intro, hgb, ⟨hown', hob2⟩⟩
            · refine ⟨fun h => absurd h (by decide), fun _ b => stepJ_of hKB hJB fun a w1 hk hj hsm hr => ?_⟩
              have e94 : a.tmps.getD 94 undef = .pointer (some ⟨o', m * 2, none⟩) := hr 94 (by decide) (by apply Array.mem_toList_iff.1; repeat (first | exact List.Mem.head _ | apply List.Mem.tail))
              rw [Array.getD_eq_getD_getElem?] at e94
              unfold Oper.wp
              simp only [execOp, Act.eval, Array.getD_eq_getD_getElem?, e94]
              go_simp
              exact ⟨_, rfl, rfl, Below.refl _ _⟩
            · refine ⟨fun h => absurd h (by decide), fun _ b => stepJ_of hKB hJB fun a w1 hk hj hsm hr => ?_⟩
              have e103 : a.tmps.getD 103 undef = .pointer (some ⟨o', m * 2, none⟩) := hr 103 (by decide) (by apply Array.mem_toList_iff.1; repeat (first | exact List.Mem.head _ | apply List.Mem.tail))
              rw [Array.getD_eq_getD_getElem?] at e103
              unfold Oper.wp
              simp only [execOp, Act.eval, Array.getD_eq_getD_getElem?, e103]
              go_simp
              exact ⟨_, rfl, rfl, Below.refl _ _⟩
      obtain ⟨j, hj⟩ : ∃ j, i = j + 1 := ⟨i - 1, by omega⟩
      have hd0 : ((i : Int) == 0) = false := by rw [beq_eq_false_iff_ne]; omega
      have hij : (i : Int) - 1 = (j : Int) := by omega
      have hijw : IntKind.i64.wrap ((i : Int) - 1) = (j : Int) := by rw [hij]; exact Go.IntWalk.i64_in _ (by omega)
      have hjL : j < L'.length := by omega
      obtain ⟨g', hV', hglt', p0, _⟩ := (HAK.out.below HB0.out) j hjL
      have hgg : g' = g := by injection hV' with h; injection h with h; exact h.symm
      subst hgg
      obtain ⟨yc, hyc⟩ : ∃ y, L'[j].c = y := ⟨_, rfl⟩
      rw [hyc] at p0
      have p0b : wb.cell? ⟨g', j * 4, none⟩ = some (.int .i64 yc) := (HBX.out.cell (p := ⟨g', j * 4, none⟩) hglt').trans p0
      obtain ⟨m, hgl0, hlc⟩ := HLC.out (by omega)
      have hlc3 : (gs.getD m default).c = yc := by
        rw [hlc, hj, Nat.add_sub_cancel, List.getD_eq_getElem?_getD, List.getElem?_eq_getElem hjL, ← hyc]
        rfl
      have hlc2 := hide hlc3
      have hgl2 := hide hgl0
      have hjj := hide hj
      clear hlc hlc3 hyc hV' p0 hj
      by_cases hcy : xc = yc
      rotate_left
      · have hcd : (xc != yc) = true := by rw [bne_iff_ne]; exact hcy
        have NEWC := hide (show i = 0 ∨ ∃ m, gs.length = m + 1 ∧ (gs.getD m default).c ≠ xc from .inr ⟨m, hgl2.out, by rw [hlc2.out]; exact fun h => hcy h.symm⟩)
        clear hcy hlc2 hgl2 hgl0
        clear m
        go_wp2_with fail
        clear z0 z1 z2 z3 f0 f1 f2 f3 hwa hwb
        go_quiet (fail)
        rename Nat => nq
        have OT := hide (HOTB.out nq)
        have HAQ := hide (HAQB.out nq)
        have HBQ := hide (HBQB.out nq)
        have HGBQ := hide (HGBB.out nq)
        obtain ⟨wq, hwq⟩ : ∃ X, wb.drewN nq = X := ⟨_, rfl⟩
        rw [hwq] at OT HAQ HBQ HGBQ ⊢
        clear hwq HOTB HAQB HBQB HGBB c0 c1 c2 c3
        have HW4 := hide (show W4.heap.size ≤ wq.heap.size from HBQ.out.size)
        clear p0b hcd hij hijw
        -- a new group
        obtain ⟨row, hrow⟩ : ∃ x, (Value.slice O gs.length oc).ownBlock = x := ⟨_, rfl⟩
        have HRL0 := hide (fun (g : Nat) (e : row = some g) => (own_block OT.out.row (hrow.trans e)))
        have hneG : some w.heap.size ≠ row := fun e => by have := (HRL0.out w.heap.size e.symm).1; have := HS4.out; omega
        have hneB : some wr.heap.size ≠ row := fun e => own_blk_ne OT.out.row HAQ.out (by decide) (hrow.trans e.symm)
        have HKB := hide (fun (w1 : World) (hk : wq.grownBy w1 row) => (show Below w.heap.size w w1 from (HB2.out.trans (HB4.out.mono (Nat.le_of_lt HS2.out))).trans ((HBQ.out.grown hk HBQ.out.size (fun g e => (HRL0.out g e).1)).mono (Nat.le_of_lt HS4.out))))
        have BC := hide (fun (w1 : World) (hb : Below w.heap.size w w1) => behind_c key A l.length cap k w1 (by omega) hki (HP.out.below hb (Nat.le_refl _)) (by omega))
        have IC := hide (fun (w1 : World) (hb : Below w.heap.size w w1) => itoa_a xc w1 (by have := HXC.out.1; omega) HXC.out.2 (HP.out.below hb (Nat.le_refl _)))
        have sz0 : (behindS key k).size ≤ 1100 := by
          have := itoa_length_le k (by omega) hki
          unfold behindS
          rw [ByteArray.size_append, ByteArray.size_append, bytes_size, bytes_size]
          simp only [List.length_cons, List.length_nil]
          omega
        have sz1 : ¬ 9223372036854775807 < (behindS key k).size + 1 := by omega
        have sz2 : ¬ 9223372036854775807 < (behindS key k).size + (bytes [58]).size + (bytes (itoa xc)).size := by
          have := itoa_length_le xc (by have := HXC.out.1; omega) HXC.out.2
          rw [bytes_size, bytes_size]
          simp only [List.length_cons, List.length_nil]
          omega
        go_wp2_with fail
        let K : World → World → Prop := fun a b => a.grownBy b row
        let R : Nat → Value → World → Prop := fun sl u w1 => match sl with
          | 76 => u = .slice O gs.length oc
          | 77 => u = .agg #[.string key, .slice A l.length cap]
          | 78 => u = .int .i64 k
          | 79 => u = .string (behindS key k)
          | 80 => u = .string (behindS key k ++ bytes [58])
          | 81 => u = .pointer (some ⟨wr.heap.size, 0, none⟩)
          | 82 => u = .pointer (some ⟨wr.heap.size, 0, none⟩)
          | 83 => u = .int .i64 xc
          | 84 => u = .string (bytes (itoa xc))
          | 85 => u = .string (keyK key k xc)
          | 86 => u = .agg #[.string (keyK key k xc), .slice none 0 0]
          | 87 => ∃ b, u = .slice (some ⟨b, 0, none⟩) 1 1 ∧ wq.heap.size ≤ b ∧ Blk w1 b 24 #[.string (keyK key k xc), .slice none 0 0]
          | _ => True
        let J : Option Value → World → Prop := fun b w1 => match b with
          | none => w1.ownsRow W4.heap.size 24 2 (.slice O gs.length oc) gs.length (gwCs (keyK key k) gs)
          | some u => w1.ownsRow W4.heap.size 24 2 u (gs.length + 1) (gwCs (keyK key k) gs ++ [.string (keyK key k xc), .slice none 0 0])
        have hKB : ∀ x y, Below x.heap.size x y → K x y := fun _ _ hb => grown_of_below hb
        have hJB : ∀ b x y, J b x → Below x.heap.size x y → J b y := fun b x y hj hb => by
          cases b with
          | none => exact own_belowR hj hb
          | some u => exact own_belowR hj hb
        refine wp_region_relJ 13 88 R K J (by kernel_rfl) (by kernel_rfl) (by kernel_rfl) (by kernel_rfl) (by kernel_rfl) (fun _ _ _ h1 h2 => gtrans h1 h2) (hKB _ _ (Below.refl _ _).drew) OT.out.row.drew ?mono16b ?step16b ?fin16b
        case mono16b =>
          intro sl u wx wy h hk
          match sl with
          | 87 =>
            obtain ⟨b, h1, h2, h3⟩ := h
            refine ⟨b, h1, h2, h3.grown hk fun e => ?_⟩
            have := (HRL0.out b e.symm).2.1
            omega
          | 0 | 1 | 2 | 3 | 4 | 5 | 6 | 7 | 8 | 9 | 10 | 11 | 12 | 13 | 14 | 15 | 16 | 17 | 18 | 19 | 20 | 21 | 22 | 23 | 24 | 25 | 26 | 27 | 28 | 29 | 30 | 31 | 32 | 33 | 34 | 35 | 36 | 37 | 38 | 39 | 40 | 41 | 42 | 43 | 44 | 45 | 46 | 47 | 48 | 49 | 50 | 51 | 52 | 53 | 54 | 55 | 56 | 57 | 58 | 59 | 60 | 61 | 62 | 63 | 64 | 65 | 66 | 67 | 68 | 69 | 70 | 71 | 72 | 73 | 74 | 75 | 76 | 77 | 78 | 79 | 80 | 81 | 82 | 83 | 84 | 85 | 86 | _ + 88 => exact h
        case step16b =>
          intro op hop
          simp only [List.take, List.mem_cons, List.not_mem_nil, or_false] at hop
          rcases hop with rfl | rfl | rfl | rfl | rfl | rfl | rfl | rfl | rfl | rfl | rfl | rfl | rfl
          · refine ⟨fun h => absurd h (by decide), fun _ b => stepJ_of hKB hJB fun a w1 hk hj hsm hr => ?_⟩
            have e11 : a.tmps.getD 11 undef = .slice O gs.length oc := hsm 11 (by decide)
            rw [Array.getD_eq_getD_getElem?] at e11
            unfold Oper.wp
            simp only [execOp, Act.eval, Array.getD_eq_getD_getElem?, e11]
            go_simp
            exact ⟨_, rfl, rfl, Below.refl _ _⟩
          · refine ⟨fun h => absurd h (by decide), fun _ b => stepJ_of hKB hJB fun a w1 hk hj hsm hr => ?_⟩
            have e3 : a.tmps.getD 3 undef = .pointer (some ⟨w.heap.size, 0, none⟩) := hsm 3 (by decide)
            have b9 := HGBQ.out.grown hk hneG
            have cc0 := b9.cell 0
            have cc1 := b9.cell 1
            rw [Array.getD_eq_getD_getElem?] at e3
            unfold Oper.wp
            simp only [execOp, Act.eval, Array.getD_eq_getD_getElem?, e3]
            go_simp
            exact ⟨_, rfl, rfl, Below.refl _ _⟩
          · refine ⟨fun h => absurd h (by decide), fun _ b => stepJ_of hKB hJB fun a w1 hk hj hsm hr => ?_⟩
            have e1 : a.tmps.getD 1 undef = .int .i64 k := hsm 1 (by decide)
            rw [Array.getD_eq_getD_getElem?] at e1
            unfold Oper.wp
            simp only [execOp, Act.eval, Array.getD_eq_getD_getElem?, e1]
            go_simp
            exact ⟨_, rfl, rfl, Below.refl _ _⟩
          · refine ⟨fun h => absurd h (by decide), fun _ b => stepJ_of hKB hJB fun a w1 hk hj hsm hr => ?_⟩
            have e77 : a.tmps.getD 77 undef = .agg #[.string key, .slice A l.length cap] := hr 77 (by decide) (by apply Array.mem_toList_iff.1; repeat (first | exact List.Mem.head _ | apply List.Mem.tail))
            have e78 : a.tmps.getD 78 undef = .int .i64 k := hr 78 (by decide) (by apply Array.mem_toList_iff.1; repeat (first | exact List.Mem.head _ | apply List.Mem.tail))
            rw [Array.getD_eq_getD_getElem?] at e77
            rw [Array.getD_eq_getD_getElem?] at e78
            unfold Oper.wp
            simp only [execOp, Act.eval, Array.getD_eq_getD_getElem?, e77, e78]
            go_simp
            refine (BC.out w1 (HKB.out w1 hk)).mono ?_
            rintro e w9 ⟨rfl, hb9⟩
            exact ⟨_, rfl, rfl, hb9⟩
          · refine ⟨fun h => absurd h (by decide), fun _ b => stepJ_of hKB hJB fun a w1 hk hj hsm hr => ?_⟩
            have e79 : a.tmps.getD 79 undef = .string (behindS key k) := hr 79 (by decide) (by apply Array.mem_toList_iff.1; repeat (first | exact List.Mem.head _ | apply List.Mem.tail))
            rw [Array.getD_eq_getD_getElem?] at e79
            unfold Oper.wp
            simp only [execOp, Act.eval, Array.getD_eq_getD_getElem?, e79]
            go_simp
            exact ⟨_, rfl, rfl, Below.refl _ _⟩
          · refine ⟨fun h => absurd h (by decide), fun _ b => stepJ_of hKB hJB fun a w1 hk hj hsm hr => ?_⟩
            have e13 : a.tmps.getD 13 undef = .pointer (some ⟨wr.heap.size, 0, none⟩) := hsm 13 (by decide)
            rw [Array.getD_eq_getD_getElem?] at e13
            unfold Oper.wp
            simp only [execOp, Act.eval, Array.getD_eq_getD_getElem?, e13]
            go_simp
            exact ⟨_, rfl, rfl, Below.refl _ _⟩
          · refine ⟨fun h => absurd h (by decide), fun _ b => stepJ_of hKB hJB fun a w1 hk hj hsm hr => ?_⟩
            have e81 : a.tmps.getD 81 undef = .pointer (some ⟨wr.heap.size, 0, none⟩) := hr 81 (by decide) (by apply Array.mem_toList_iff.1; repeat (first | exact List.Mem.head _ | apply List.Mem.tail))
            rw [Array.getD_eq_getD_getElem?] at e81
            unfold Oper.wp
            simp only [execOp, Act.eval, Array.getD_eq_getD_getElem?, e81]
            go_simp
            exact ⟨_, rfl, rfl, Below.refl _ _⟩
          · refine ⟨fun h => absurd h (by decide), fun _ b => stepJ_of hKB hJB fun a w1 hk hj hsm hr => ?_⟩
            have e82 : a.tmps.getD 82 undef = .pointer (some ⟨wr.heap.size, 0, none⟩) := hr 82 (by decide) (by apply Array.mem_toList_iff.1; repeat (first | exact List.Mem.head _ | apply List.Mem.tail))
            have cc0 : w1.cell? ⟨wr.heap.size, 0, none⟩ = some (.int .i64 xc) := (HAQ.out.grown hk hneB).cell 0
            rw [Array.getD_eq_getD_getElem?] at e82
            unfold Oper.wp
            simp only [execOp, Act.eval, Array.getD_eq_getD_getElem?, e82]
            go_simp
            exact ⟨_, rfl, rfl, Below.refl _ _⟩
          · refine ⟨fun h => absurd h (by decide), fun _ b => stepJ_of hKB hJB fun a w1 hk hj hsm hr => ?_⟩
            have e83 : a.tmps.getD 83 undef = .int .i64 xc := hr 83 (by decide) (by apply Array.mem_toList_iff.1; repeat (first | exact List.Mem.head _ | apply List.Mem.tail))
            rw [Array.getD_eq_getD_getElem?] at e83
            unfold Oper.wp
            simp only [execOp, Act.eval, Array.getD_eq_getD_getElem?, e83]
            go_simp
            refine (IC.out w1 (HKB.out w1 hk)).mono ?_
            rintro e w9 ⟨rfl, hb9⟩
            exact ⟨_, rfl, rfl, hb9⟩
          · refine ⟨fun h => absurd h (by decide), fun _ b => stepJ_of hKB hJB fun a w1 hk hj hsm hr => ?_⟩
            have e80 : a.tmps.getD 80 undef = .string (behindS key k ++ bytes [58]) := hr 80 (by decide) (by apply Array.mem_toList_iff.1; repeat (first | exact List.Mem.head _ | apply List.Mem.tail))
            have e84 : a.tmps.getD 84 undef = .string (bytes (itoa xc)) := hr 84 (by decide) (by apply Array.mem_toList_iff.1; repeat (first | exact List.Mem.head _ | apply List.Mem.tail))
            rw [Array.getD_eq_getD_getElem?] at e80
            rw [Array.getD_eq_getD_getElem?] at e84
            unfold Oper.wp
            simp only [execOp, Act.eval, Array.getD_eq_getD_getElem?, e80, e84]
            go_simp
            exact ⟨_, rfl, rfl, Below.refl _ _⟩
          · refine ⟨fun h => absurd h (by decide), fun _ b => stepJ_of hKB hJB fun a w1 hk hj hsm hr => ?_⟩
            have e85 : a.tmps.getD 85 undef = .string (keyK key k xc) := hr 85 (by decide) (by apply Array.mem_toList_iff.1; repeat (first | exact List.Mem.head _ | apply List.Mem.tail))
            rw [Array.getD_eq_getD_getElem?] at e85
            unfold Oper.wp
            simp only [execOp, Act.eval, Array.getD_eq_getD_getElem?, e85]
            go_simp
            exact ⟨_, rfl, rfl, Below.refl _ _⟩
          · refine ⟨fun h => absurd h (by decide), fun _ b => stepJ_of hKB hJB fun a w1 hk hj hsm hr => ?_⟩
            have e86 : a.tmps.getD 86 undef = .agg #[.string (keyK key k xc), .slice none 0 0] := hr 86 (by decide) (by apply Array.mem_toList_iff.1; repeat (first | exact List.Mem.head _ | apply List.Mem.tail))
            have hsz := hk.size
            rw [Array.getD_eq_getD_getElem?] at e86
            unfold Oper.wp
            simp only [execOp, Act.eval, Array.getD_eq_getD_getElem?, e86]
            go_simp
            exact ⟨_, rfl, ⟨w1.heap.size, rfl, hsz, Blk.new w1 24 _⟩, (Below.refl _ _).alloc (Nat.le_refl _) _⟩
          · refine ⟨fun _ a w1 hk hj hsm hr => ?_, fun h => absurd rfl h⟩
            have e76 : a.tmps.getD 76 undef = .slice O gs.length oc := hr 76 (by decide) (by apply Array.mem_toList_iff.1; repeat (first | exact List.Mem.head _ | apply List.Mem.tail))
            have e87 : ∃ b, a.tmps.getD 87 undef = .slice (some ⟨b, 0, none⟩) 1 1 ∧ wq.heap.size ≤ b ∧ Blk w1 b 24 #[.string (keyK key k xc), .slice none 0 0] := hr 87 (by decide) (by apply Array.mem_toList_iff.1; repeat (first | exact List.Mem.head _ | apply List.Mem.tail))
            obtain ⟨b, e87', hb, hbb⟩ := e87
            have hj : w1.ownsRow W4.heap.size 24 2 (.slice O gs.length oc) gs.length (gwCs (keyK key k) gs) := hj
            have hrd : Reads w1 w1.heap.size 2 (some ⟨b, 0, none⟩) 1 [.string (keyK key k xc), .slice none 0 0] := ⟨rfl, fun _ => ⟨_, rfl, hbb.lt, fun j u hu => by rw [add_lit, hbb.cell]; simpa using hu⟩⟩
            obtain ⟨i0, hi0, hz0, hz1, hz2⟩ := info_parts gr_info
            obtain ⟨v', w'', hrun, hown', hgb, _⟩ := run_append_any (P := Tryd.prog) w1 W4.heap.size 33 33 24 i0 _ 2 40 Tryd.underlying33 hi0 hz0 hz1 hz2 (by rfl) (by omega) _ _ _ hj w1.heap.size (some ⟨b, 0, none⟩) 1 1 _ hrd (by intro u hu; simp only [List.mem_cons, List.not_mem_nil, or_false] at hu; rcases hu with rfl | rfl <;> rfl) (by have := HGN0.out; unfold maxLen; omega) (by have := HGN0.out; omega) (by have := hk.size; have := HBQ.out.size; omega)
            rw [hrow] at hgb
            exact Lib.wp_append_run w1 (.tmp 76) (.tmp 87) 33 33 rfl _ _ e76 e87' v' w'' hrun ⟨v', rfl, fun t ht => by cases ht; exact True.intro, hgb, hown'⟩
        case fin16b =>
          intro ff wp9 hk hj hr
          have hk : wq.grownBy wp9 row := hk
          have hown : wp9.ownsRow W4.heap.size 24 2 (ff 88) (gs.length + 1) (gwCs (keyK key k) gs ++ [.string (keyK key k xc), .slice none 0 0]) := hj
          obtain ⟨ap, cp, e88⟩ := own_form hown
          rw [e88] at hown
          have OT9 := hide (OutA.push OT.out (by rw [← hrow] at hk; exact hk) hown)
          have HAQ9 := hide (HAQ.out.grown hk hneB)
          have HBQ9 := hide (HBQ.out.grown hk HBQ.out.size (fun g e => (HRL0.out g e).1))
          have HW49 := hide (show W4.heap.size ≤ wp9.heap.size from HBQ9.out.size)
          obtain ⟨gb, hgb9⟩ : ∃ y, ap = some ⟨y, 0, none⟩ := by
            obtain ⟨y, h9, _⟩ := own_cell hown (by omega)
            exact ⟨y, h9⟩
          subst hgb9
          clear hr hj hown hk hKB hJB hrow hneG hneB
          simp only [putAll, slotsOf, List.take, List.drop, List.filterMap_cons, List.filterMap_nil, List.foldl_cons, List.foldl_nil, Act.put, e88]
          simp only [List.setIfInBounds_toArray, List.set_cons_succ, List.set_cons_zero]
          -- the new group is the last one
          have HGL := hide (show (gs ++ [(⟨xc, none, 0, []⟩ : Gw)]).length = gs.length + 1 by simp)
          have HGM := hide (fun j (hj : j < (gs ++ [(⟨xc, none, 0, []⟩ : Gw)]).length) => show (gs ++ [(⟨xc, none, 0, []⟩ : Gw)])[j].rs.length ≤ 1000 by
            by_cases h9 : j < gs.length
            · rw [List.getElem_append_left h9]; exact HGNA.out j h9
            · rw [List.getElem_append_right (by omega)]; simp)
          have ENDN := hide (fun a9 c9 gc gA gcap grs hm hg => end_new (x := ⟨xc, xk, xn, xr⟩) HGS.out hlt HX.out NEWC.out a9 c9 gc gA gcap grs hm hg)
          simp only at ENDN
          obtain ⟨gs', hgs'⟩ : ∃ y, gs ++ [(⟨xc, none, 0, []⟩ : Gw)] = y := ⟨_, rfl⟩
          rw [hgs'] at OT9 HGL HGM ENDN
          clear hgs'
          obtain ⟨m, hm⟩ : ∃ m, gs.length = m := ⟨_, rfl⟩
          rw [hm] at HGL ENDN HGN0 ⊢
          have hgl : gs'.length = m + 1 := HGL.out
          have hm1000 : m ≤ 1000 := HGN0.out
          clear hm HGL
          -- the last group gets the rank
          have hmg : m < gs'.length := by omega
          obtain ⟨gl, hgl2⟩ : ∃ x, gs'[m]'hmg = x := ⟨_, rfl⟩
          have ROWM := OT9.out.rs m hmg
          have ADD := hide (fun (w9 : World) (a9 : Option Addr) (c9 : Nat) (r : Int) => OutA.add (r := r) (w9 := w9) (a9 := a9) (c9 := c9) OT9.out hmg)
          have hgn9 := HGM.out m hmg
          rw [hgl2] at ROWM ADD hgn9
          obtain ⟨gc, gA, gcap, grs⟩ := gl
          have HGN : Hid (grs.length ≤ 1000) := hide hgn9
          have ROWM : wp9.ownsRow W4.heap.size 3 1 (.slice gA grs.length gcap) grs.length (ints grs) := ROWM
          obtain ⟨o', hO, _, _, ⟨cso, hOb⟩, hOf, _, hOc⟩ := own_cell OT9.out.row (by omega)
          have hOo : o' = gb := by injection hO with h; injection h with h; exact h.symm
          subst hOo
          have HOB := hide hOb
          have hoc := hOc (m * 2 + 1) _ (gwCs_at (keyK key k) gs' m hmg).2
          rw [hgl2] at hoc
          have HOC : Hid (wp9.cell? ⟨o', m * 2 + 1, none⟩ = some (.slice gA grs.length gcap)) := hide hoc
          obtain ⟨row, hrow⟩ : ∃ x, (Value.slice gA grs.length gcap).ownBlock = x := ⟨_, rfl⟩
          have hneO : some o' ≠ row := fun e => own_blk_ne ROWM hOb (by decide) (hrow.trans e.symm)
          have hneB : some wr.heap.size ≠ row := fun e => own_blk_ne ROWM HAQ9.out (by decide) (hrow.trans e.symm)
          have HRL := hide (fun (g : Nat) (e : row = some g) => (own_block ROWM (hrow.trans e)))
          have HROWM := hide ROWM
          have HGL := hide hgl2
          clear hO hOb hOf hOc hoc ROWM hgl2 hgn9
          go_wp2_with fail
          let K : World → World → Prop := fun a b => a.grownBy b row
          let R : Nat → Value → World → Prop := fun sl u w1 => match sl with
            | 94 => u = .pointer (some ⟨o', m * 2, none⟩)
            | 95 => u = .pointer (some ⟨o', m * 2, none⟩)
            | 96 => u = .pointer (some ⟨o', m * 2, none⟩)
            | 97 => u = .pointer (some ⟨o', m * 2 + 1, none⟩)
            | 98 => u = .slice gA grs.length gcap
            | 99 => u = .pointer (some ⟨wr.heap.size, 3, none⟩)
            | 100 => u = .int .i64 xr
            | 103 => u = .pointer (some ⟨o', m * 2, none⟩)
            | 104 => u = .pointer (some ⟨o', m * 2 + 1, none⟩)
            | 101 => ∃ b, u = .slice (some ⟨b, 0, none⟩) 1 1 ∧ wp9.heap.size ≤ b ∧ Blk w1 b 3 #[.int .i64 xr]
            | _ => True
          let J : Option Value → World → Prop := fun b w1 => match b with
            | none => w1.ownsRow W4.heap.size 3 1 (.slice gA grs.length gcap) grs.length (ints grs)
            | some u => w1.ownsRow W4.heap.size 3 1 u (grs.length + 1) (ints grs ++ [.int .i64 xr]) ∧ ∀ g, u.ownBlock = some g → row = some g ∨ wp9.heap.size ≤ g
          have hKB : ∀ x y, Below x.heap.size x y → K x y := fun _ _ hb => grown_of_below hb
          have hJB : ∀ b x y, J b x → Below x.heap.size x y → J b y := fun b x y hj hb => by
            cases b with
            | none => exact own_belowR hj hb
            | some u => exact ⟨own_belowR hj.1 hb, hj.2⟩
          refine wp_region_relJ 11 102 R K J (by kernel_rfl) (by kernel_rfl) (by kernel_rfl) (by kernel_rfl) (by kernel_rfl) (fun _ _ _ h1 h2 => gtrans h1 h2) (hKB _ _ (Below.refl _ _).drew) HROWM.out.drew ?mono18b ?step18b ?fin18b
          case mono18b =>
            intro sl u wx wy h hk
            match sl with
            | 101 =>
              obtain ⟨b, h1, h2, h3⟩ := h
              refine ⟨b, h1, h2, h3.grown hk fun e => ?_⟩
              have := (HRL.out b e.symm).2.1
              omega
            | 0 | 1 | 2 | 3 | 4 | 5 | 6 | 7 | 8 | 9 | 10 | 11 | 12 | 13 | 14 | 15 | 16 | 17 | 18 | 19 | 20 | 21 | 22 | 23 | 24 | 25 | 26 | 27 | 28 | 29 | 30 | 31 | 32 | 33 | 34 | 35 | 36 | 37 | 38 | 39 | 40 | 41 | 42 | 43 | 44 | 45 | 46 | 47 | 48 | 49 | 50 | 51 | 52 | 53 | 54 | 55 | 56 | 57 | 58 | 59 | 60 | 61 | 62 | 63 | 64 | 65 | 66 | 67 | 68 | 69 | 70 | 71 | 72 | 73 | 74 | 75 | 76 | 77 | 78 | 79 | 80 | 81 | 82 | 83 | 84 | 85 | 86 | 87 | 88 | 89 | 90 | 91 | 92 | 93 | 94 | 95 | 96 | 97 | 98 | 99 | 100 | 102 | 103 | 104 | _ + 105 => exact h
          case fin18b =>
            intro ff w9 hk hj hr
            have hk : wp9.grownBy w9 row := hk
            obtain ⟨hown, hob⟩ : w9.ownsRow W4.heap.size 3 1 (ff 102) (grs.length + 1) (ints grs ++ [.int .i64 xr]) ∧ ∀ g, (ff 102).ownBlock = some g → row = some g ∨ wp9.heap.size ≤ g := hj
            have e104 : ff 104 = .pointer (some ⟨o', m * 2 + 1, none⟩) := hr 104 (by decide)
            obtain ⟨a9, c9, e102⟩ := own_form hown
            rw [e102] at hown hob
            have y0 : w9.cell? ⟨o', m * 2 + 1, none⟩ = some (.slice gA grs.length gcap) := (World.cell?_of_block (a := ⟨o', m * 2 + 1, none⟩) (hk.block o' HOB.out.lt hneO)).trans HOC.out
            have yf : w9.frozen? ⟨o', m * 2 + 1, none⟩ = false := (show Blk w9 o' 24 cso from (hk.block o' HOB.out.lt hneO).trans HOB.out).frozen _
            have OT9 := hide (ADD.out w9 a9 c9 xr (by rw [← hrow] at hk; exact hk) hown (fun g e => by rw [← hrow] at hob; exact hob g e))
            have HOG : Hid (W4.heap.size ≤ o') := hide (own_block OT9.out.row (g := o') rfl).1
            have HB9 := hide (((HBQ9.out.grown hk (by have := HBQ9.out.size; omega) (fun g e => (HRL.out g e).1))).setCell (p := ⟨o', m * 2 + 1, none⟩) HOG.out (.slice a9 (grs.length + 1) c9))
            clear hr hj hown hob hk hKB hJB
            simp only [putAll, slotsOf, List.take, List.drop, List.filterMap_cons, List.filterMap_nil, List.foldl_cons, List.foldl_nil, Act.put, e102, e104]
            simp only [List.setIfInBounds_toArray, List.set_cons_succ, List.set_cons_zero]
            have hset : (gs'.set m (⟨gc, a9, c9, grs ++ [xr]⟩ : Gw)).length = m + 1 := by rw [List.length_set]; exact hgl
            have HREL := hide (ENDN.out a9 c9 gc gA gcap grs hmg HGL.out)
            go_wp2_with fail
            go_roundw
            case rel => exact ⟨i + 1, some ⟨o', 0, none⟩, cp, gs'.set m ⟨gc, a9, c9, grs ++ [xr]⟩, by omega, by go_num, by rw [hset], OT9, hide HREL.out.1, hide HREL.out.2, HB9⟩
            case measure => simp [RowKit.intOf] <;> omega
          case step18b =>
            intro op hop
            simp only [List.take, List.mem_cons, List.not_mem_nil, or_false] at hop
            rcases hop with rfl | rfl | rfl | rfl | rfl | rfl | rfl | rfl | rfl | rfl | rfl
            · refine ⟨fun h => absurd h (by decide), fun _ b => stepJ_of hKB hJB fun a w1 hk hj hsm hr => ?_⟩
              have e14 : a.tmps.getD 14 undef = .pointer (some ⟨o', m * 2, none⟩) := hsm 14 (by decide)
              rw [Array.getD_eq_getD_getElem?] at e14
              unfold Oper.wp
              simp only [execOp, Act.eval, Array.getD_eq_getD_getElem?, e14]
              go_simp
              exact ⟨_, rfl, rfl, Below.refl _ _⟩
            · refine ⟨fun h => absurd h (by decide), fun _ b => stepJ_of hKB hJB fun a w1 hk hj hsm hr => ?_⟩
              have e14 : a.tmps.getD 14 undef = .pointer (some ⟨o', m * 2, none⟩) := hsm 14 (by decide)
              rw [Array.getD_eq_getD_getElem?] at e14
              unfold Oper.wp
              simp only [execOp, Act.eval, Array.getD_eq_getD_getElem?, e14]
              go_simp
              exact ⟨_, rfl, rfl, Below.refl _ _⟩
            · refine ⟨fun h => absurd h (by decide), fun _ b => stepJ_of hKB hJB fun a w1 hk hj hsm hr => ?_⟩
              have e95 : a.tmps.getD 95 undef = .pointer (some ⟨o', m * 2, none⟩) := hr 95 (by decide) (by apply Array.mem_toList_iff.1; repeat (first | exact List.Mem.head _ | apply List.Mem.tail))
              rw [Array.getD_eq_getD_getElem?] at e95
              unfold Oper.wp
              simp only [execOp, Act.eval, Array.getD_eq_getD_getElem?, e95]
              go_simp
              exact ⟨_, rfl, rfl, Below.refl _ _⟩
            · refine ⟨fun h => absurd h (by decide), fun _ b => stepJ_of hKB hJB fun a w1 hk hj hsm hr => ?_⟩
              have e96 : a.tmps.getD 96 undef = .pointer (some ⟨o', m * 2, none⟩) := hr 96 (by decide) (by apply Array.mem_toList_iff.1; repeat (first | exact List.Mem.head _ | apply List.Mem.tail))
              rw [Array.getD_eq_getD_getElem?] at e96
              unfold Oper.wp
              simp only [execOp, Act.eval, Array.getD_eq_getD_getElem?, e96]
              go_simp
              exact ⟨_, rfl, rfl, Below.refl _ _⟩
            · refine ⟨fun h => absurd h (by decide), fun _ b => stepJ_of hKB hJB fun a w1 hk hj hsm hr => ?_⟩
              have e97 : a.tmps.getD 97 undef = .pointer (some ⟨o', m * 2 + 1, none⟩) := hr 97 (by decide) (by apply Array.mem_toList_iff.1; repeat (first | exact List.Mem.head _ | apply List.Mem.tail))
              have b9 : Blk w1 o' 24 cso := (hk.block o' HOB.out.lt hneO).trans HOB.out
              have cc0 : w1.cell? ⟨o', m * 2 + 1, none⟩ = some (.slice gA grs.length gcap) := (World.cell?_of_block (a := ⟨o', m * 2 + 1, none⟩) (hk.block o' HOB.out.lt hneO)).trans HOC.out
              rw [Array.getD_eq_getD_getElem?] at e97
              unfold Oper.wp
              simp only [execOp, Act.eval, Array.getD_eq_getD_getElem?, e97]
              go_simp
              exact ⟨_, rfl, rfl, Below.refl _ _⟩
            · refine ⟨fun h => absurd h (by decide), fun _ b => stepJ_of hKB hJB fun a w1 hk hj hsm hr => ?_⟩
              have e13 : a.tmps.getD 13 undef = .pointer (some ⟨wr.heap.size, 0, none⟩) := hsm 13 (by decide)
              rw [Array.getD_eq_getD_getElem?] at e13
              unfold Oper.wp
              simp only [execOp, Act.eval, Array.getD_eq_getD_getElem?, e13]
              go_simp
              exact ⟨_, rfl, rfl, Below.refl _ _⟩
            · refine ⟨fun h => absurd h (by decide), fun _ b => stepJ_of hKB hJB fun a w1 hk hj hsm hr => ?_⟩
              have e99 : a.tmps.getD 99 undef = .pointer (some ⟨wr.heap.size, 3, none⟩) := hr 99 (by decide) (by apply Array.mem_toList_iff.1; repeat (first | exact List.Mem.head _ | apply List.Mem.tail))
              have cc0 : w1.cell? ⟨wr.heap.size, 3, none⟩ = some (.int .i64 xr) := (HAQ9.out.grown hk hneB).cell 3
              rw [Array.getD_eq_getD_getElem?] at e99
              unfold Oper.wp
              simp only [execOp, Act.eval, Array.getD_eq_getD_getElem?, e99]
              go_simp
              exact ⟨_, rfl, rfl, Below.refl _ _⟩
            · refine ⟨fun h => absurd h (by decide), fun _ b => stepJ_of hKB hJB fun a w1 hk hj hsm hr => ?_⟩
              have e100 : a.tmps.getD 100 undef = .int .i64 xr := hr 100 (by decide) (by apply Array.mem_toList_iff.1; repeat (first | exact List.Mem.head _ | apply List.Mem.tail))
              have hsz := hk.size
              rw [Array.getD_eq_getD_getElem?] at e100
              unfold Oper.wp
              simp only [execOp, Act.eval, Array.getD_eq_getD_getElem?, e100]
              go_simp
              exact ⟨_, rfl, ⟨w1.heap.size, rfl, hsz, Blk.new w1 3 _⟩, (Below.refl _ _).alloc (Nat.le_refl _) _⟩
            · refine ⟨fun _ a w1 hk hj hsm hr => ?_, fun h => absurd rfl h⟩
              have e98 : a.tmps.getD 98 undef = .slice gA grs.length gcap := hr 98 (by decide) (by apply Array.mem_toList_iff.1; repeat (first | exact List.Mem.head _ | apply List.Mem.tail))
              have e101 : ∃ b, a.tmps.getD 101 undef = .slice (some ⟨b, 0, none⟩) 1 1 ∧ wp9.heap.size ≤ b ∧ Blk w1 b 3 #[.int .i64 xr] := hr 101 (by decide) (by apply Array.mem_toList_iff.1; repeat (first | exact List.Mem.head _ | apply List.Mem.tail))
              obtain ⟨b, e101', hb, hbb⟩ := e101
              have hj : w1.ownsRow W4.heap.size 3 1 (.slice gA grs.length gcap) grs.length (ints grs) := hj
              have hrd : Reads w1 w1.heap.size 1 (some ⟨b, 0, none⟩) 1 [.int .i64 xr] := ⟨rfl, fun _ => ⟨_, rfl, hbb.lt, fun j u hu => by rw [add_lit, hbb.cell]; simpa using hu⟩⟩
              obtain ⟨i0, hi0, hz0, hz1, hz2⟩ := info_parts int_infoG
              obtain ⟨v', w'', hrun, hown', hgb, hob'⟩ := run_append_any (P := Tryd.prog) w1 W4.heap.size 22 22 3 i0 _ 1 8 Tryd.underlying22 hi0 hz0 hz1 hz2 (by rfl) (by omega) _ _ _ hj w1.heap.size (some ⟨b, 0, none⟩) 1 1 _ hrd (by intro u hu; rw [List.mem_singleton.1 hu]; rfl) (by have := HGN.out; unfold maxLen; omega) (by have := HGN.out; omega) (by have := hk.size; have := HW49.out; omega)
              rw [hrow] at hgb
              have hob2 : ∀ g, v'.ownBlock = some g → row = some g ∨ wp9.heap.size ≤ g := fun g e => by
                rcases hob' with h9 | h9
                · exact .inl (by rw [← hrow, ← h9]; exact e)
                · rw [h9] at e
                  injection e with e
                  have := hk.size
                  exact .inr (by omega)
              exact Lib.wp_append_run w1 (.tmp 98) (.tmp 101) 22 22 rfl _ _ e98 e101' v' w'' hrun ⟨v', rfl, fun t ht => by cases ht; exact True.intro, hgb, ⟨hown', hob2⟩⟩
            · refine ⟨fun h => absurd h (by decide), fun _ b => stepJ_of hKB hJB fun a w1 hk hj hsm hr => ?_⟩
              have e94 : a.tmps.getD 94 undef = .pointer (some ⟨o', m * 2, none⟩) := hr 94 (by decide) (by apply Array.mem_toList_iff.1; repeat (first | exact List.Mem.head _ | apply List.Mem.tail))
              rw [Array.getD_eq_getD_getElem?] at e94
              unfold Oper.wp
              simp only [execOp, Act.eval, Array.getD_eq_getD_getElem?, e94]
              go_simp
              exact ⟨_, rfl, rfl, Below.refl _ _⟩
            · refine ⟨fun h => absurd h (by decide), fun _ b => stepJ_of hKB hJB fun a w1 hk hj hsm hr => ?_⟩
              have e103 : a.tmps.getD 103 undef = .pointer (some ⟨o', m * 2, none⟩) := hr 103 (by decide) (by apply Array.mem_toList_iff.1; repeat (first | exact List.Mem.head _ | apply List.Mem.tail))
              rw [Array.getD_eq_getD_getElem?] at e103
              unfold Oper.wp
              simp only [execOp, Act.eval, Array.getD_eq_getD_getElem?, e103]
              go_simp
              exact ⟨_, rfl, rfl, Below.refl _ _⟩
      have hcd : (xc != yc) = false := by rw [bne_eq_false_iff_eq]; exact hcy
      have hm1000 : m ≤ 1000 := by have := HGN0.out; have := hgl2.out; omega
      have hgl : gs.length = m + 1 := hgl2.out
      have ENDS := hide (fun a9 c9 gc gA gcap grs hm hg => end_same (x := ⟨xc, xk, xn, xr⟩) HGS.out hlt HX.out hgl (by rw [hlc2.out]; exact hcy.symm) a9 c9 gc gA gcap grs hm hg)
      simp only at ENDS
      obtain ⟨o, hO⟩ : ∃ o, O = some ⟨o, 0, none⟩ := by
        obtain ⟨o, h, _⟩ := own_cell OT0.out.row (by omega)
        exact ⟨o, h⟩
      subst hO
      clear hcy hlc2 hgl2 hgl0
      go_wp2_with fail
      clear z0 z1 z2 z3 f0 f1 f2 f3 hwa hwb
      go_quiet (fail)
      rename Nat => nq

      have OT := hide (HOTB.out nq)
      have HAQ := hide (HAQB.out nq)
      have HBQ := hide (HBQB.out nq)
      have HGBQ := hide (HGBB.out nq)
      obtain ⟨wq, hwq⟩ : ∃ X, wb.drewN nq = X := ⟨_, rfl⟩
      rw [hwq] at OT HAQ HBQ HGBQ ⊢
      clear hwq HOTB HAQB HBQB HGBB c0 c1 c2 c3
      have HW4 := hide (show W4.heap.size ≤ wq.heap.size from HBQ.out.size)
      clear p0b hcd hij hijw
      -- the last group gets the rank
      have hmg : m < gs.length := by omega
      obtain ⟨gl, hgl2⟩ : ∃ x, gs[m]'hmg = x := ⟨_, rfl⟩
      have ROWM := OT.out.rs m hmg
      have ADD := hide (fun (w9 : World) (a9 : Option Addr) (c9 : Nat) (r : Int) => OutA.add (r := r) (w9 := w9) (a9 := a9) (c9 := c9) OT.out hmg)
      have hgn9 := HGNA.out m hmg
      rw [hgl2] at ROWM ADD hgn9
      obtain ⟨gc, gA, gcap, grs⟩ := gl
      have HGN : Hid (grs.length ≤ 1000) := hide hgn9
      have ROWM : wq.ownsRow W4.heap.size 3 1 (.slice gA grs.length gcap) grs.length (ints grs) := ROWM
      obtain ⟨o', hO, _, _, ⟨cso, hOb⟩, hOf, _, hOc⟩ := own_cell OT.out.row (by omega)
      have hOo : o' = o := by injection hO with h; injection h with h; exact h.symm
      subst hOo
      have HOB := hide hOb
      have hoc := hOc (m * 2 + 1) _ (gwCs_at (keyK key k) gs m hmg).2
      rw [hgl2] at hoc
      have HOC : Hid (wq.cell? ⟨o', m * 2 + 1, none⟩ = some (.slice gA grs.length gcap)) := hide hoc
      obtain ⟨row, hrow⟩ : ∃ x, (Value.slice gA grs.length gcap).ownBlock = x := ⟨_, rfl⟩
      have hneO : some o' ≠ row := fun e => own_blk_ne ROWM hOb (by decide) (hrow.trans e.symm)
      have hneB : some wr.heap.size ≠ row := fun e => own_blk_ne ROWM HAQ.out (by decide) (hrow.trans e.symm)
      have HRL := hide (fun (g : Nat) (e : row = some g) => (own_block ROWM (hrow.trans e)))
      have HROWM := hide ROWM
      have HGL := hide hgl2
      clear hO hOb hOf hOc hoc ROWM hgl2 hgn9
      go_wp2_with fail
      let K : World → World → Prop := fun a b => a.grownBy b row
      let R : Nat → Value → World → Prop := fun sl u w1 => match sl with
        | 94 => u = .pointer (some ⟨o', m * 2, none⟩)
        | 95 => u = .pointer (some ⟨o', m * 2, none⟩)
        | 96 => u = .pointer (some ⟨o', m * 2, none⟩)
        | 97 => u = .pointer (some ⟨o', m * 2 + 1, none⟩)
        | 98 => u = .slice gA grs.length gcap
        | 99 => u = .pointer (some ⟨wr.heap.size, 3, none⟩)
        | 100 => u = .int .i64 xr
        | 103 => u = .pointer (some ⟨o', m * 2, none⟩)
        | 104 => u = .pointer (some ⟨o', m * 2 + 1, none⟩)
        | 101 => ∃ b, u = .slice (some ⟨b, 0, none⟩) 1 1 ∧ wq.heap.size ≤ b ∧ Blk w1 b 3 #[.int .i64 xr]
        | _ => True
      let J : Option Value → World → Prop := fun b w1 => match b with
        | none => w1.ownsRow W4.heap.size 3 1 (.slice gA grs.length gcap) grs.length (ints grs)
        | some u => w1.ownsRow W4.heap.size 3 1 u (grs.length + 1) (ints grs ++ [.int .i64 xr]) ∧ ∀ g, u.ownBlock = some g → row = some g ∨ wq.heap.size ≤ g
      have hKB : ∀ x y, Below x.heap.size x y → K x y := fun _ _ hb => grown_of_below hb
      have hJB : ∀ b x y, J b x → Below x.heap.size x y → J b y := fun b x y hj hb => by
        cases b with
        | none => exact own_belowR hj hb
        | some u => exact ⟨own_belowR hj.1 hb, hj.2⟩
      refine wp_region_relJ 11 102 R K J (by kernel_rfl) (by kernel_rfl) (by kernel_rfl) (by kernel_rfl) (by kernel_rfl) (fun _ _ _ h1 h2 => gtrans h1 h2) (hKB _ _ (Below.refl _ _).drew) HROWM.out.drew ?mono18c ?step18c ?fin18c
      case mono18c =>
        intro sl u wx wy h hk
        match sl with
        | 101 =>
          obtain ⟨b, h1, h2, h3⟩ := h
          refine ⟨b, h1, h2, h3.grown hk fun e => ?_⟩
          have := (HRL.out b e.symm).2.1
          omega
        | 0 | 1 | 2 | 3 | 4 | 5 | 6 | 7 | 8 | 9 | 10 | 11 | 12 | 13 | 14 | 15 | 16 | 17 | 18 | 19 | 20 | 21 | 22 | 23 | 24 | 25 | 26 | 27 | 28 | 29 | 30 | 31 | 32 | 33 | 34 | 35 | 36 | 37 | 38 | 39 | 40 | 41 | 42 | 43 | 44 | 45 | 46 | 47 | 48 | 49 | 50 | 51 | 52 | 53 | 54 | 55 | 56 | 57 | 58 | 59 | 60 | 61 | 62 | 63 | 64 | 65 | 66 | 67 | 68 | 69 | 70 | 71 | 72 | 73 | 74 | 75 | 76 | 77 | 78 | 79 | 80 | 81 | 82 | 83 | 84 | 85 | 86 | 87 | 88 | 89 | 90 | 91 | 92 | 93 | 94 | 95 | 96 | 97 | 98 | 99 | 100 | 102 | 103 | 104 | _ + 105 => exact h
      case fin18c =>
        intro ff w9 hk hj hr
        have hk : wq.grownBy w9 row := hk
        obtain ⟨hown, hob⟩ : w9.ownsRow W4.heap.size 3 1 (ff 102) (grs.length + 1) (ints grs ++ [.int .i64 xr]) ∧ ∀ g, (ff 102).ownBlock = some g → row = some g ∨ wq.heap.size ≤ g := hj
        have e104 : ff 104 = .pointer (some ⟨o', m * 2 + 1, none⟩) := hr 104 (by decide)
        obtain ⟨a9, c9, e102⟩ := own_form hown
        rw [e102] at hown hob
        have y0 : w9.cell? ⟨o', m * 2 + 1, none⟩ = some (.slice gA grs.length gcap) := (World.cell?_of_block (a := ⟨o', m * 2 + 1, none⟩) (hk.block o' HOB.out.lt hneO)).trans HOC.out
        have yf : w9.frozen? ⟨o', m * 2 + 1, none⟩ = false := (show Blk w9 o' 24 cso from (hk.block o' HOB.out.lt hneO).trans HOB.out).frozen _
        have OT9 := hide (ADD.out w9 a9 c9 xr (by rw [← hrow] at hk; exact hk) hown (fun g e => by rw [← hrow] at hob; exact hob g e))
        have HOG : Hid (W4.heap.size ≤ o') := hide (own_block OT.out.row (g := o') rfl).1
        have HB9 := hide (((HBQ.out.grown hk (by have := HBQ.out.size; omega) (fun g e => (HRL.out g e).1))).setCell (p := ⟨o', m * 2 + 1, none⟩) HOG.out (.slice a9 (grs.length + 1) c9))
        clear hr hj hown hob hk hKB hJB
        simp only [putAll, slotsOf, List.take, List.drop, List.filterMap_cons, List.filterMap_nil, List.foldl_cons, List.foldl_nil, Act.put, e102, e104]
        simp only [List.setIfInBounds_toArray, List.set_cons_succ, List.set_cons_zero]
        have hset : (gs.set m (⟨gc, a9, c9, grs ++ [xr]⟩ : Gw)).length = m + 1 := by rw [List.length_set]; exact hgl
        have HREL := hide (ENDS.out a9 c9 gc gA gcap grs hmg HGL.out)
        go_wp2_with fail
        go_roundw
        case rel => exact ⟨i + 1, some ⟨o', 0, none⟩, oc, gs.set m ⟨gc, a9, c9, grs ++ [xr]⟩, by omega, by go_num, by rw [hset], OT9, hide HREL.out.1, hide HREL.out.2, HB9⟩
        case measure => simp [RowKit.intOf] <;> omega
      case step18c =>
        intro op hop
        simp only [List.take, List.mem_cons, List.not_mem_nil, or_false] at hop
        rcases hop with rfl | rfl | rfl | rfl | rfl | rfl | rfl | rfl | rfl | rfl | rfl
        · refine ⟨fun h => absurd h (by decide), fun _ b => stepJ_of hKB hJB fun a w1 hk hj hsm hr => ?_⟩
          have e14 : a.tmps.getD 14 undef = .pointer (some ⟨o', m * 2, none⟩) := hsm 14 (by decide)
          rw [Array.getD_eq_getD_getElem?] at e14
          unfold Oper.wp
          simp only [execOp, Act.eval, Array.getD_eq_getD_getElem?, e14]
          go_simp
          exact ⟨_, rfl, rfl, Below.refl _ _⟩
        · refine ⟨fun h => absurd h (by decide), fun _ b => stepJ_of hKB hJB fun a w1 hk hj hsm hr => ?_⟩
          have e14 : a.tmps.getD 14 undef = .pointer (some ⟨o', m * 2, none⟩) := hsm 14 (by decide)
          rw [Array.getD_eq_getD_getElem?] at e14
          unfold Oper.wp
          simp only [execOp, Act.eval, Array.getD_eq_getD_getElem?, e14]
          go_simp
          exact ⟨_, rfl, rfl, Below.refl _ _⟩
        · refine ⟨fun h => absurd h (by decide), fun _ b => stepJ_of hKB hJB fun a w1 hk hj hsm hr => ?_⟩
          have e95 : a.tmps.getD 95 undef = .pointer (some ⟨o', m * 2, none⟩) := hr 95 (by decide) (by apply Array.mem_toList_iff.1; repeat (first | exact List.Mem.head _ | apply List.Mem.tail))
          rw [Array.getD_eq_getD_getElem?] at e95
          unfold Oper.wp
          simp only [execOp, Act.eval, Array.getD_eq_getD_getElem?, e95]
          go_simp
          exact ⟨_, rfl, rfl, Below.refl _ _⟩
        · refine ⟨fun h => absurd h (by decide), fun _ b => stepJ_of hKB hJB fun a w1 hk hj hsm hr => ?_⟩
          have e96 : a.tmps.getD 96 undef = .pointer (some ⟨o', m * 2, none⟩) := hr 96 (by decide) (by apply Array.mem_toList_iff.1; repeat (first | exact List.Mem.head _ | apply List.Mem.tail))
          rw [Array.getD_eq_getD_getElem?] at e96
          unfold Oper.wp
          simp only [execOp, Act.eval, Array.getD_eq_getD_getElem?, e96]
          go_simp
          exact ⟨_, rfl, rfl, Below.refl _ _⟩
        · refine ⟨fun h => absurd h (by decide), fun _ b => stepJ_of hKB hJB fun a w1 hk hj hsm hr => ?_⟩
          have e97 : a.tmps.getD 97 undef = .pointer (some ⟨o', m * 2 + 1, none⟩) := hr 97 (by decide) (by apply Array.mem_toList_iff.1; repeat (first | exact List.Mem.head _ | apply List.Mem.tail))
          have b9 : Blk w1 o' 24 cso := (hk.block o' HOB.out.lt hneO).trans HOB.out
          have cc0 : w1.cell? ⟨o', m * 2 + 1, none⟩ = some (.slice gA grs.length gcap) := (World.cell?_of_block (a := ⟨o', m * 2 + 1, none⟩) (hk.block o' HOB.out.lt hneO)).trans HOC.out
          rw [Array.getD_eq_getD_getElem?] at e97
          unfold Oper.wp
          simp only [execOp, Act.eval, Array.getD_eq_getD_getElem?, e97]
          go_simp
          exact ⟨_, rfl, rfl, Below.refl _ _⟩
        · refine ⟨fun h => absurd h (by decide), fun _ b => stepJ_of hKB hJB fun a w1 hk hj hsm hr => ?_⟩
          have e13 : a.tmps.getD 13 undef = .pointer (some ⟨wr.heap.size, 0, none⟩) := hsm 13 (by decide)
          rw [Array.getD_eq_getD_getElem?] at e13
          unfold Oper.wp
          simp only [execOp, Act.eval, Array.getD_eq_getD_getElem?, e13]
          go_simp
          exact ⟨_, rfl, rfl, Below.refl _ _⟩
        · refine ⟨fun h => absurd h (by decide), fun _ b => stepJ_of hKB hJB fun a w1 hk hj hsm hr => ?_⟩
          have e99 : a.tmps.getD 99 undef = .pointer (some ⟨wr.heap.size, 3, none⟩) := hr 99 (by decide) (by apply Array.mem_toList_iff.1; repeat (first | exact List.Mem.head _ | apply List.Mem.tail))
          have cc0 : w1.cell? ⟨wr.heap.size, 3, none⟩ = some (.int .i64 xr) := (HAQ.out.grown hk hneB).cell 3
          rw [Array.getD_eq_getD_getElem?] at e99
          unfold Oper.wp
          simp only [execOp, Act.eval, Array.getD_eq_getD_getElem?, e99]
          go_simp
          exact ⟨_, rfl, rfl, Below.refl _ _⟩
        · refine ⟨fun h => absurd h (by decide), fun _ b => stepJ_of hKB hJB fun a w1 hk hj hsm hr => ?_⟩
          have e100 : a.tmps.getD 100 undef = .int .i64 xr := hr 100 (by decide) (by apply Array.mem_toList_iff.1; repeat (first | exact List.Mem.head _ | apply List.Mem.tail))
          have hsz := hk.size
          rw [Array.getD_eq_getD_getElem?] at e100
          unfold Oper.wp
          simp only [execOp, Act.eval, Array.getD_eq_getD_getElem?, e100]
          go_simp
          exact ⟨_, rfl, ⟨w1.heap.size, rfl, hsz, Blk.new w1 3 _⟩, (Below.refl _ _).alloc (Nat.le_refl _) _⟩
        · refine ⟨fun _ a w1 hk hj hsm hr => ?_, fun h => absurd rfl h⟩
          have e98 : a.tmps.getD 98 undef = .slice gA grs.length gcap := hr 98 (by decide) (by apply Array.mem_toList_iff.1; repeat (first | exact List.Mem.head _ | apply List.Mem.tail))
          have e101 : ∃ b, a.tmps.getD 101 undef = .slice (some ⟨b, 0, none⟩) 1 1 ∧ wq.heap.size ≤ b ∧ Blk w1 b 3 #[.int .i64 xr] := hr 101 (by decide) (by apply Array.mem_toList_iff.1; repeat (first | exact List.Mem.head _ | apply List.Mem.tail))
          obtain ⟨b, e101', hb, hbb⟩ := e101
          have hj : w1.ownsRow W4.heap.size 3 1 (.slice gA grs.length gcap) grs.length (ints grs) := hj
          have hrd : Reads w1 w1.heap.size 1 (some ⟨b, 0, none⟩) 1 [.int .i64 xr] := ⟨rfl, fun _ => ⟨_, rfl, hbb.lt, fun j u hu => by rw [add_lit, hbb.cell]; simpa using hu⟩⟩
          obtain ⟨i0, hi0, hz0, hz1, hz2⟩ := info_parts int_infoG
          obtain ⟨v', w'', hrun, hown', hgb, hob'⟩ := run_append_any (P := Tryd.prog) w1 W4.heap.size 22 22 3 i0 _ 1 8 Tryd.underlying22 hi0 hz0 hz1 hz2 (by rfl) (by omega) _ _ _ hj w1.heap.size (some ⟨b, 0, none⟩) 1 1 _ hrd (by intro u hu; rw [List.mem_singleton.1 hu]; rfl) (by have := HGN.out; unfold maxLen; omega) (by have := HGN.out; omega) (by have := hk.size; have := HW4.out; omega)
          rw [hrow] at hgb
          have hob2 : ∀ g, v'.ownBlock = some g → row = some g ∨ wq.heap.size ≤ g := fun g e => by
            rcases hob' with h9 | h9
            · exact .inl (by rw [← hrow, ← h9]; exact e)
            · rw [h9] at e
              injection e with e
              have := hk.size
              exact .inr (by omega)
          exact Lib.wp_append_run w1 (.tmp 98) (.tmp 101) 22 22 rfl _ _ e98 e101' v' w'' hrun ⟨v', rfl, fun t ht => by cases ht; exact True.intro, hgb, ⟨hown', hob2⟩⟩
        · refine ⟨fun h => absurd h (by decide), fun _ b => stepJ_of hKB hJB fun a w1 hk hj hsm hr => ?_⟩
          have e94 : a.tmps.getD 94 undef = .pointer (some ⟨o', m * 2, none⟩) := hr 94 (by decide) (by apply Array.mem_toList_iff.1; repeat (first | exact List.Mem.head _ | apply List.Mem.tail))
          rw [Array.getD_eq_getD_getElem?] at e94
          unfold Oper.wp
          simp only [execOp, Act.eval, Array.getD_eq_getD_getElem?, e94]
          go_simp
          exact ⟨_, rfl, rfl, Below.refl _ _⟩
        · refine ⟨fun h => absurd h (by decide), fun _ b => stepJ_of hKB hJB fun a w1 hk hj hsm hr => ?_⟩
          have e103 : a.tmps.getD 103 undef = .pointer (some ⟨o', m * 2, none⟩) := hr 103 (by decide) (by apply Array.mem_toList_iff.1; repeat (first | exact List.Mem.head _ | apply List.Mem.tail))
          rw [Array.getD_eq_getD_getElem?] at e103
          unfold Oper.wp
          simp only [execOp, Act.eval, Array.getD_eq_getD_getElem?, e103]
          go_simp
          exact ⟨_, rfl, rfl, Below.refl _ _⟩
end Sp
end Go.Proofs.YtgiibknfkphkgaaDoor
