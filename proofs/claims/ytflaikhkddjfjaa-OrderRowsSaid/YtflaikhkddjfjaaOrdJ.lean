/- The document's Of: its contract. -/
import Derived.Test.YtflaikhkddjfjaaRows
import Derived.Test.YtflaikhkddjfjaaOrdI
import Derived.Test.YtflaikhkddjfjaaRelT
import Derived.Test.YtflaikhkddjfjaaRelH
import Derived.Lib.AppendZeros
import Derived.BigQuiet
import Derived.LoopN
namespace Go.Proofs.Ytflaikhkddjfjaa
open Go Go.RowKit
set_option linter.unusedVariables false
set_option linter.unusedSimpArgs false
namespace Ord
def refPost (ni : Int) (F : Nat → Ec) (len : Nat) (w : World) (e : Ending) (w' : World) : Prop :=
  ((e = .returned (.tuple #[.pointer none, .int .i64 2]) ∧ ¬ Good ni F len) ∨ ∃ (o : Nat) (gs : List Nat), e = .returned (.tuple #[.pointer (some ⟨o, 0, none⟩), .int .i64 0]) ∧ Good ni F len ∧ Rf w' o w.heap.size ni.toNat len (evN F) gs ∧ gs.length = len) ∧ Below w.heap.size w w'
set_option maxRecDepth 100000 in
set_option maxHeartbeats 8000000 in
theorem refOf_c (ni : Int) (A : Option Addr) (len cap : Nat) (F : Nat → Ec) (w : World) (hlen : len ≤ maxLen) (h : Evs w A len F) (hs : Small F len) :
    Calls Try.prog 26 #[.int .i64 ni, .slice A len cap] w fun e w' => refPost ni F len w e w' := by
  by_cases h1 : ni < 1
  · have hno := hide (show ¬ Good ni F len from fun h => by have := h.1; omega)
    clear h hs
    go_enter Try.func26, Try.ntmps26
    go_wp2_with fail
    go_ret2
    exact ⟨.inl ⟨rfl, hno.out⟩, Below.refl _ _⟩
  by_cases h2 : 64 < ni
  · have hno := hide (show ¬ Good ni F len from fun h => by have := h.2.1; omega)
    clear h hs
    go_enter Try.func26, Try.ntmps26
    go_wp2_with fail
    go_ret2
    exact ⟨.inl ⟨rfl, hno.out⟩, Below.refl _ _⟩
  by_cases h3 : 2000 < len
  · have hno := hide (show ¬ Good ni F len from fun h => by have := h.2.2.1; omega)
    have h3I : (2000 : Int) < (len : Int) := by omega
    clear h hs h3
    go_enter Try.func26, Try.ntmps26
    go_wp2_with fail
    go_ret2
    exact ⟨.inl ⟨rfl, hno.out⟩, Below.refl _ _⟩
  have h3I : ¬ (2000 : Int) < (len : Int) := by omega
  have hs' : len ≤ 120 ∧ ∀ i, i < len → (F i).af.length ≤ 20 := by
    rcases hs with hs | hs
    · exact hs
    · omega
  obtain ⟨n, rfl⟩ : ∃ n : Nat, ni = (n : Int) := ⟨ni.toNat, by omega⟩
  have hn1 : 1 ≤ n := by omega
  have hn2 : n ≤ 64 := by omega
  have HEV := hide h
  have HSM := hide hs'
  have hl120 := hs'.1
  have hmk := fun W => run_make_row' (P := Try.prog) 41 4 (.bool false) 1 Try.underlying41 bool_info rfl .i64 .i64 len (by omega) (by omega) W
  have HMK := hide hmk
  have hbo := (Below.refl w.heap.size w).alloc (Nat.le_refl _) (.cells #[.int .i64 n, .slice none 0 0, .slice none 0 0] 44)
  have bo := Blk.new w 44 #[.int .i64 n, .slice none 0 0, .slice none 0 0]
  obtain ⟨w1, hw1⟩ : ∃ x, w.alloc (.cells #[.int .i64 n, .slice none 0 0, .slice none 0 0] 44) = x := ⟨_, rfl⟩
  rw [hw1] at hbo bo
  have RF : Hid (Rf w1 w.heap.size w.heap.size n len (evN F) []) := hide ⟨⟨none, 0, none, 0, bo, ⟨rfl, .inl ⟨rfl, rfl⟩⟩, ⟨rfl, .inl ⟨rfl, rfl⟩⟩⟩, fun i hi => absurd hi (Nat.not_lt_zero i)⟩
  have HB := hide hbo
  clear h hs hs' hbo bo hmk
  go_enter Try.func26, Try.ntmps26
  go_wp2_with fail
  clear hw1
  go_loopw [7] (fun vi ws => ∃ (k : Nat) (gs : List Nat), k ≤ len ∧ vi = .int .i64 k ∧ Hid (gs.length = k) ∧ Hid (okTo n F k) ∧ Hid (Rf ws w.heap.size w.heap.size n len (evN F) gs) ∧ Hid (Below w.heap.size w ws)) (fun vi _ => len - (intOf vi).toNat)
  case atStart => exact ⟨0, [], by omega, rfl, hide rfl, hide (fun i hi => absurd hi (Nat.not_lt_zero i)), RF, HB⟩
  case round =>
    clear RF HB
    obtain ⟨k, gs, hk, rfl, HLEN, HOK, RF, HB⟩ := hrel
    rename World => W0
    by_cases hlt : k < len
    rotate_left
    · have hltI : ¬ (k : Int) < (len : Int) := by omega
      have e : k = len := by omega
      have FIN := hide (show Good n F len ∧ gs.length = len from ⟨⟨by omega, by omega, by omega, e ▸ HOK.out⟩, HLEN.out.trans e⟩)
      have RF2 := hide (show Rf W0 w.heap.size w.heap.size ((n : Int)).toNat len (evN F) gs by rw [Int.toNat_natCast]; exact RF.out)
      clear e
      go_wp2_with fail
      go_ret2
      exact ⟨.inr ⟨_, gs, rfl, FIN.out.1, RF2.out, FIN.out.2⟩, HB.out⟩
    have hltI : (k : Int) < (len : Int) := by omega
    obtain ⟨a, rfl, c0, c1, hrd, hmx, hal⟩ := HEV.out k hlt
    have haf := HSM.out.2 k hlt
    have hrd0 := hide (rd_on hrd HB.out)
    have HC0 := hide (fun (w' : World) (hb : Below w.heap.size w w') => (hb.cell hal).trans c0)
    have HC1 := hide (fun (w' : World) (hb : Below w.heap.size w w') => (hb.cell (p := ⟨_, _, none⟩) hal).trans c1)
    have c0 := HC0.out W0 HB.out
    have c1 := HC1.out W0 HB.out
    have HBAD := hide (fun (h : mayE n k (F k).r (F k).af = false) => (show ¬ Good n F len from fun hg => by have := hg.2.2.2 k hlt; rw [h] at this; cases this))
    have HSUC := hide (fun (h : mayE n k (F k).r (F k).af = true) => okTo_succ HOK.out h)
    clear hrd
    by_cases hr0 : (F k).r < 0
    · have HNO := hide (HBAD.out (mayE_no (.inl hr0)))
      go_wp2_with fail
      go_ret2
      exact ⟨.inl ⟨rfl, HNO.out⟩, HB.out⟩
    by_cases hr1 : (n : Int) ≤ (F k).r
    · have HNO := hide (HBAD.out (mayE_no (.inr hr1)))
      go_wp2_with fail
      go_ret2
      exact ⟨.inl ⟨rfl, HNO.out⟩, HB.out⟩
    have BR0 := BRow.made W0 len
    have HB0 := (Below.refl W0.heap.size W0).alloc (Nat.le_refl _) (.cells (madeCells #[Value.bool false] len) 4)
    have hmkw := HMK.out W0
    obtain ⟨wg, hwg⟩ : ∃ x, W0.alloc (.cells (madeCells #[Value.bool false] len) 4) = x := ⟨_, rfl⟩
    rw [hwg] at BR0 HB0 hmkw
    have BR1 := hide (BR0.to (f' := fun m => decide (m < 0 ∧ (F m).r = (F k).r)) (fun m _ => by simp))
    have HB1 := hide HB0
    have HR01 := hide (And.intro hr0 hr1)
    clear BR0 HB0
    go_wp2_with fail
    clear hwg hmkw c0 c1 hr0 hr1
    go_loopw [9] (fun vi ws => ∃ (j : Nat), j ≤ k ∧ vi = .int .i64 j ∧ Hid (BRow ws W0.heap.size W0.heap.size len (fun m => decide (m < j ∧ (F m).r = (F k).r))) ∧ Hid (Below W0.heap.size W0 ws)) (fun vi _ => k - (intOf vi).toNat)
    case atStart => exact ⟨0, by omega, rfl, BR1, HB1⟩
    case round =>
      clear BR1 HB1
      obtain ⟨j, hj, rfl, BR, HBj⟩ := hrel
      rename World => ws
      by_cases hjk : j < k
      · have hjkI : (j : Int) < (k : Int) := by omega
        have hjlI : (j : Int) < (len : Int) := by omega
        obtain ⟨a', ha', d0, _, _, _, hal'⟩ := HEV.out j (by omega)
        injection ha' with ha'
        subst ha'
        have HBw := HB.out.trans (HBj.out.mono HB.out.size)
        have d0 := (HBw.cell hal').trans d0
        have c0 := HC0.out _ HBw
        have cc := BR.out.cell (m := j) (by omega)
        have cf := BR.out.frozen j
        have HBwh := hide HBw
        clear HBw hal'
        by_cases e : (F j).r = (F k).r
        · have SET := hide (fun (nq : Nat) => And.intro ((BRow.set_ (w := _root_.Go.World.drewN _ nq) (BRow.of_block BR.out rfl) j true).to (f' := fun m => decide (m < j + 1 ∧ (F m).r = (F k).r)) (fun m _ => by
            by_cases em : m = j
            · subst em; simp [e]
            · simp only [if_neg em]
              have : m < j + 1 ↔ m < j := by omega
              simp [this])) ((below_drewN HBj.out nq).setCell (p := ⟨W0.heap.size, j, none⟩) (Nat.le_refl _) (.bool true)))
          have ebI : ((F j).r == (F k).r) = true := by simp [e]
          clear e
          generalize (F j).r = rj at *
          generalize (F k).r = rk at *
          go_wp2_with fail
          go_quiet (fail)
          go_wp2_with fail
          go_roundw
          case rel => exact ⟨j + 1, by omega, by go_num, hide (SET.out _).1, hide (SET.out _).2⟩
          case measure => simp [intOf] <;> omega
        · have SET := hide (fun (nq : Nat) => And.intro ((BRow.of_block (w' := _root_.Go.World.drewN _ nq) BR.out rfl).to (f' := fun m => decide (m < j + 1 ∧ (F m).r = (F k).r)) (fun m _ => by
            by_cases em : m = j
            · subst em; simp [e]
            · have : m < j + 1 ↔ m < j := by omega
              simp [this])) (below_drewN HBj.out nq))
          have ebI : ((F j).r == (F k).r) = false := by simp [e]
          clear e
          generalize (F j).r = rj at *
          generalize (F k).r = rk at *
          go_wp2_with fail
          go_quiet (fail)
          go_wp2_with fail
          go_roundw
          case rel => exact ⟨j + 1, by omega, by go_num, hide (SET.out _).1, hide (SET.out _).2⟩
          case measure => simp [intOf] <;> omega
      have hjkI : ¬ (j : Int) < (k : Int) := by omega
      obtain rfl : j = k := by omega
      have BRd := hide (BR.out.to (f' := dirF F j 0) (fun m _ => by simp [dirF]))
      clear BR
      go_wp2_with fail
      go_loopw [10] (fun vi ws => ∃ (q : Nat), q ≤ (F j).af.length ∧ vi = .int .i64 q ∧ Hid (∀ x ∈ (F j).af.take q, 0 ≤ x ∧ x < (j : Int)) ∧ Hid (BRow ws W0.heap.size W0.heap.size len (dirF F j q)) ∧ Hid (Below W0.heap.size W0 ws)) (fun vi _ => (F j).af.length - (intOf vi).toNat)
      case atStart => exact ⟨0, by omega, rfl, hide (fun x hx => by simp at hx), BRd, HBj⟩
      case round =>
        clear BRd HBj
        obtain ⟨q, hq, rfl, HAF, BR, HBj⟩ := hrel
        rename World => ws2
        have HBw := HB.out.trans (HBj.out.mono HB.out.size)
        have c1 := HC1.out _ HBw
        by_cases hql : q < (F j).af.length
        · have hqlI : (q : Int) < ((F j).af.length : Int) := by omega
          obtain ⟨ad, hA, hbl, cx⟩ := rd_at hrd0.out hql
          have cx := (HBj.out.cell (p := ad.add q) (by simpa [block_of_add] using hbl)).trans cx
          have hmem : (F j).af.getD q 0 ∈ (F j).af := by
            rw [List.getD_eq_getElem?_getD, List.getElem?_eq_getElem hql]
            exact List.getElem_mem hql
          have HT := (show (F j).af.take (q + 1) = (F j).af.take q ++ [(F j).af.getD q 0] by rw [List.take_succ_eq_append_getElem hql, List.getD_eq_getElem?_getD, List.getElem?_eq_getElem hql]; rfl)
          rw [hA] at c1
          have HBF := hide (fun (h : badK j ((F j).af.getD q 0) = true) => HBAD.out (mayE_bad ⟨_, hmem, h⟩))
          have HDF : Hid (∀ xn : Nat, (F j).af.getD q 0 = (xn : Int) → ∀ m, (if m = xn then true else dirF F j q m) = dirF F j (q + 1) m) := hide (fun xn hx m => by
            unfold dirF
            rw [HT, hx]
            by_cases em : m = xn
            · subst em; simp
            · rw [if_neg em]
              congr 1
              have : (m : Int) ≠ (xn : Int) := by omega
              simp [this])
          have HAF2 : Hid (0 ≤ (F j).af.getD q 0 → (F j).af.getD q 0 < (j : Int) → ∀ x ∈ (F j).af.take (q + 1), 0 ≤ x ∧ x < (j : Int)) := hide (fun h0 h1 x hx => by
            rw [HT] at hx
            rcases List.mem_append.1 hx with hx | hx
            · exact HAF.out x hx
            · rw [List.mem_singleton.1 hx]; exact ⟨h0, h1⟩)
          have HBwh := hide HBw
          clear HT hmem HBw hbl hA
          generalize (F j).af.getD q 0 = x at *
          by_cases hx0 : x < 0
          · have HNO := hide (HBF.out (decide_eq_true (.inl hx0)))
            go_wp2_with fail
            go_ret2
            exact ⟨.inl ⟨rfl, HNO.out⟩, HBwh.out⟩
          by_cases hx1 : (j : Int) ≤ x
          · have HNO := hide (HBF.out (decide_eq_true (.inr hx1)))
            go_wp2_with fail
            go_ret2
            exact ⟨.inl ⟨rfl, HNO.out⟩, HBwh.out⟩
          obtain ⟨xn, rfl⟩ : ∃ xn : Nat, x = (xn : Int) := ⟨x.toNat, by omega⟩
          have hxlI : (xn : Int) < (len : Int) := by omega
          have cc := BR.out.cell (m := xn) (by omega)
          have cf := BR.out.frozen xn
          have BR3 := hide ((BR.out.set_ xn true).to (fun m _ => HDF.out xn rfl m))
          have HB3 := hide (HBj.out.setCell (p := ⟨W0.heap.size, xn, none⟩) (Nat.le_refl _) (.bool true))
          have HAF3 := hide (HAF2.out (by omega) (by omega))
          go_wp2_with fail
          go_roundw
          case rel => exact ⟨q + 1, by omega, by go_num, HAF3, BR3, HB3⟩
          case measure => simp [intOf] <;> omega
        have hqlI : ¬ (q : Int) < ((F j).af.length : Int) := by omega
        obtain rfl : q = (F j).af.length := by omega
        have hok2 : okTo n F (j + 1) := HSUC.out (decide_eq_true ⟨by have := HR01.out.1; omega, by have := HR01.out.2; omega, fun x hx => HAF.out x (by rw [List.take_length]; exact hx)⟩)
        have HOK2 := hide hok2
        have PT := hide (Part.start (dirF_iff hok2))
        clear hok2 HBw
        go_wp2_with fail
        clear c1
        go_loopw [12] (fun vi ws => ∃ (i : Nat) (f : Nat → Bool), i ≤ j ∧ vi = .int .i64 ((i : Int) - 1) ∧ Hid (Part (evN F) j i f) ∧ Hid (BRow ws W0.heap.size W0.heap.size len f) ∧ Hid (Below W0.heap.size W0 ws)) (fun vi _ => (intOf vi + 1).toNat)
        case atStart => exact ⟨j, _, Nat.le_refl _, by go_num, PT, BR, HBj⟩
        case round =>
          clear PT BR HBj
          obtain ⟨i, f, hi, hv, PT, BR, HBj⟩ := hrel
          rename World => ws3
          rcases i with _ | i
          · obtain rfl : _ = Value.int .i64 (-1) := hv
            have BRe := BR.out.to (fun m _ => PT.out.full m)
            have RFs := RF.out.below HBj.out
            obtain ⟨R, rc, A2, ac, b, o1, o2⟩ := RFs.tab
            have hsl := HLEN.out
            rw [hsl] at b o1 o2
            have HBs := HB.out.trans (HBj.out.mono HB.out.size)
            obtain ⟨A1, c9, w5, hrun, hown5, hb5, hk5⟩ := push_one 42 41 (.slice none 0 0) (.slice (some ⟨W0.heap.size, 0, none⟩) len len) 24 Try.underlying42 bools_info rfl (by decide) rfl ws3 w.heap.size A2 ac j (gs.map (bsl len)) o2 HBs.size (by omega)
            have p0 := b.cell 2
            simp only [List.getElem?_toArray, List.getElem?_cons_succ, List.getElem?_cons_zero] at p0
            have b5 := KeepsBut.blk hk5 b (by decide)
            have p5 := b5.cell 2
            simp only [List.getElem?_toArray, List.getElem?_cons_succ, List.getElem?_cons_zero] at p5
            have pf5 := b5.frozen 2
            have kk6 := keeps_set (p := ⟨w.heap.size, 2, none⟩) b5 (.slice A1 (j + 1) c9)
            have b6 := b5.set_ 2 (.slice A1 (j + 1) c9)
            have r6 := KeepsBut.own kk6 (KeepsBut.own hk5 o1 (by decide)) (by decide)
            have a6 := KeepsBut.own kk6 hown5 (by decide)
            have rows6 : ∀ i (h : i < gs.length), BRow (w5.setCell ⟨w.heap.size, 2, none⟩ (.slice A1 (j + 1) c9)) w.heap.size gs[i] len (ahB (evN F) i) := fun i h => ((RFs.rows i h).keeps hk5 (by decide)).keeps kk6 (by decide)
            have g6 := ((BRe.keeps hk5 (by decide)).keeps kk6 (by decide)).more HB.out.size
            have hb6 := (HBs.trans hb5).setCell (p := ⟨w.heap.size, 2, none⟩) (Nat.le_refl _) (.slice A1 (j + 1) c9)
            obtain ⟨w6, hw6⟩ : ∃ x, w5.setCell ⟨w.heap.size, 2, none⟩ (.slice A1 (j + 1) c9) = x := ⟨_, rfl⟩
            rw [hw6] at b6 r6 a6 rows6 g6 hb6
            have b6 : Blk w6 w.heap.size 44 #[.int .i64 n, .slice R j rc, .slice A1 (j + 1) c9] := by simpa using b6
            have HBO6 := hide b6
            have HR6 := hide r6
            have HA6 := hide a6
            have HRW6 := hide rows6
            have HG6 := hide g6
            have HB6 := hide hb6
            clear b o1 o2 hown5 hb5 hk5 b5 b6 kk6 r6 a6 rows6 g6 hb6 HBs RFs BRe BR hsl
            go_wp2_with (at_builtin; refine Lib.wpList_append_run _ rfl (.tmp 139) (.tmp 141) _ _ rfl _ _ rfl rfl _ w5 hrun ?_)
            clear p0 p5 pf5 hw6 hrun
            have q1 := HBO6.out.cell 1
            simp only [List.getElem?_toArray, List.getElem?_cons_succ, List.getElem?_cons_zero] at q1
            have c0 := HC0.out _ HB6.out
            obtain ⟨rk, hrk⟩ : ∃ x, (F j).r = x := ⟨_, rfl⟩
            rw [hrk] at c0
            have hrk2 : (ranksL (evN F) (j + 1)) = ranksL (evN F) j ++ [(evN F j).r] := ranksL_succ _ _
            have hrkE : rk = ((evN F j).r : Int) := by
              rw [← hrk]
              exact (mayE_ev (HOK2.out j (by omega))).1
            have HRK := hide hrkE
            obtain ⟨row, hrow⟩ : ∃ x, (Value.slice R j rc).ownBlock = x := ⟨_, rfl⟩
            have hlow : ∀ k, row = some k → w.heap.size ≤ k := fun k e => (own_block HR6.out (hrow.trans e)).1
            have hneO : row ≠ some w.heap.size := fun e => own_blk_ne HR6.out HBO6.out (by decide) (hrow.trans e)
            clear hrk hrk2 hrkE
            let K : World → World → Prop := fun a b => a.grownBy b row
            let R' : Nat → Value → World → Prop := fun sl u w1 => match sl with
              | 145 | 146 | 147 => u = .pointer (some ⟨w.heap.size, 0, none⟩)
              | 148 => u = .pointer (some ⟨w.heap.size, 1, none⟩)
              | 149 => u = .slice R j rc
              | 150 => u = .slice (some a) len cap
              | 151 => u = .int .i64 j
              | 152 | 153 => u = .pointer (some (a.add (j * 2)))
              | 154 => u = .int .i64 rk
              | 155 => ∃ b, u = .slice (some ⟨b, 0, none⟩) 1 1 ∧ w6.heap.size ≤ b ∧ Blk w1 b 3 #[.int .i64 rk]
              | _ => True
            let J : Option Value → World → Prop := fun b w1 => match b with
              | none => w1.ownsRow w.heap.size 3 1 (.slice R j rc) j (ints (natI (ranksL (evN F) j)))
              | some u => w1.ownsRow w.heap.size 3 1 u (j + 1) (ints (natI (ranksL (evN F) j)) ++ [.int .i64 rk])
            have hKB : ∀ x y, Below x.heap.size x y → K x y := fun _ _ hb => grown_of_below hb
            have hJB : ∀ b x y, J b x → Below x.heap.size x y → J b y := fun b x y hj hb => by
              cases b with
              | none => exact own_belowR hj hb
              | some u => exact own_belowR hj hb
            refine wp_region_relJ 12 156 R' K J (by kernel_rfl) (by kernel_rfl) (by kernel_rfl) (by kernel_rfl) (by kernel_rfl) (fun _ _ _ h1 h2 => gtrans h1 h2) (hKB _ _ (Below.refl _ _).drew) HR6.out.drew ?mono30 ?step30 ?fin30
            case mono30 =>
              intro sl u wx wy h hk
              match sl with
              | 155 =>
                obtain ⟨b, h1, h2, h3⟩ := h
                refine ⟨b, h1, h2, h3.grown hk fun e => ?_⟩
                obtain ⟨_, h4, _⟩ := own_block HR6.out (hrow.trans e.symm)
                omega
              | 0 | 1 | 2 | 3 | 4 | 5 | 6 | 7 | 8 | 9 | 10 | 11 | 12 | 13 | 14 | 15 | 16 | 17 | 18 | 19 | 20 | 21 | 22 | 23 | 24 | 25 | 26 | 27 | 28 | 29 | 30 | 31 | 32 | 33 | 34 | 35 | 36 | 37 | 38 | 39 | 40 | 41 | 42 | 43 | 44 | 45 | 46 | 47 | 48 | 49 | 50 | 51 | 52 | 53 | 54 | 55 | 56 | 57 | 58 | 59 | 60 | 61 | 62 | 63 | 64 | 65 | 66 | 67 | 68 | 69 | 70 | 71 | 72 | 73 | 74 | 75 | 76 | 77 | 78 | 79 | 80 | 81 | 82 | 83 | 84 | 85 | 86 | 87 | 88 | 89 | 90 | 91 | 92 | 93 | 94 | 95 | 96 | 97 | 98 | 99 | 100 | 101 | 102 | 103 | 104 | 105 | 106 | 107 | 108 | 109 | 110 | 111 | 112 | 113 | 114 | 115 | 116 | 117 | 118 | 119 | 120 | 121 | 122 | 123 | 124 | 125 | 126 | 127 | 128 | 129 | 130 | 131 | 132 | 133 | 134 | 135 | 136 | 137 | 138 | 139 | 140 | 141 | 142 | 143 | 144 | 145 | 146 | 147 | 148 | 149 | 150 | 151 | 152 | 153 | 154 | 156 | _ + 157 => exact h
            case fin30 =>
              intro ff w9 hk9 hj9 hr9
              have hown9 : w9.ownsRow w.heap.size 3 1 (ff 156) (j + 1) (ints (natI (ranksL (evN F) j)) ++ [.int .i64 rk]) := hj9
              have e145 : ff 145 = .pointer (some ⟨w.heap.size, 0, none⟩) := hr9 145 (by decide)
              obtain ⟨a9, cc9, e156⟩ := own_form hown9
              rw [e156] at hown9
              have b9 := HBO6.out.grown hk9 (Ne.symm hneO)
              have y1 := b9.cell 1
              simp only [List.getElem?_toArray, List.getElem?_cons_succ, List.getElem?_cons_zero] at y1
              have yf := b9.frozen 1
              have kk : KeepsBut [3] w6 w9 := grown_keeps HR6.out (by rw [hrow]; exact hk9)
              rw [HRK.out] at hown9
              have FIN := hide (Rf.snoc b9 hown9 (KeepsBut.own kk HA6.out (by decide)) (fun i h => (HRW6.out i h).keeps kk (by decide)) (HG6.out.keeps kk (by decide)) HLEN.out)
              have HBF := hide ((HB6.out.grown hk9 HB6.out.size hlow).setCell (p := ⟨w.heap.size, 1, none⟩) (Nat.le_refl _) (.slice a9 (j + 1) cc9))
              clear hr9 hj9 hown9 hk9 kk b9 hKB hJB q1 c0
              simp only [putAll, slotsOf, List.take, List.drop, List.filterMap_cons, List.filterMap_nil, List.foldl_cons, List.foldl_nil, Act.put, e145, e156]
              simp only [List.setIfInBounds_toArray, List.set_cons_succ, List.set_cons_zero]
              go_wp2_with fail
              go_roundw
              case rel => exact ⟨j + 1, gs ++ [W0.heap.size], by omega, by go_num, hide (by rw [List.length_append, HLEN.out]; rfl), HOK2, FIN, HBF⟩
              case measure => simp [intOf] <;> omega
            case step30 =>
              intro op hop
              simp only [List.take, List.mem_cons, List.not_mem_nil, or_false] at hop
              rcases hop with rfl | rfl | rfl | rfl | rfl | rfl | rfl | rfl | rfl | rfl | rfl | rfl
              · refine ⟨fun h => absurd h (by decide), fun _ b => stepJ_of hKB hJB fun a9 w1 hk hj hsm hr => ?_⟩
                have e6 : a9.tmps.getD 6 undef = .pointer (some ⟨w.heap.size, 0, none⟩) := hsm 6 (by decide)
                rw [Array.getD_eq_getD_getElem?] at e6
                unfold Oper.wp
                simp only [execOp, Act.eval, Array.getD_eq_getD_getElem?, e6]
                go_simp
                exact ⟨_, rfl, rfl, Below.refl _ _⟩
              · refine ⟨fun h => absurd h (by decide), fun _ b => stepJ_of hKB hJB fun a9 w1 hk hj hsm hr => ?_⟩
                have e6 : a9.tmps.getD 6 undef = .pointer (some ⟨w.heap.size, 0, none⟩) := hsm 6 (by decide)
                rw [Array.getD_eq_getD_getElem?] at e6
                unfold Oper.wp
                simp only [execOp, Act.eval, Array.getD_eq_getD_getElem?, e6]
                go_simp
                exact ⟨_, rfl, rfl, Below.refl _ _⟩
              · refine ⟨fun h => absurd h (by decide), fun _ b => stepJ_of hKB hJB fun a9 w1 hk hj hsm hr => ?_⟩
                have e146 : a9.tmps.getD 146 undef = .pointer (some ⟨w.heap.size, 0, none⟩) := hr 146 (by decide) (by apply Array.mem_toList_iff.1; repeat (first | exact List.Mem.head _ | apply List.Mem.tail))
                rw [Array.getD_eq_getD_getElem?] at e146
                unfold Oper.wp
                simp only [execOp, Act.eval, Array.getD_eq_getD_getElem?, e146]
                go_simp
                exact ⟨_, rfl, rfl, Below.refl _ _⟩
              · refine ⟨fun h => absurd h (by decide), fun _ b => stepJ_of hKB hJB fun a9 w1 hk hj hsm hr => ?_⟩
                have e147 : a9.tmps.getD 147 undef = .pointer (some ⟨w.heap.size, 0, none⟩) := hr 147 (by decide) (by apply Array.mem_toList_iff.1; repeat (first | exact List.Mem.head _ | apply List.Mem.tail))
                rw [Array.getD_eq_getD_getElem?] at e147
                unfold Oper.wp
                simp only [execOp, Act.eval, Array.getD_eq_getD_getElem?, e147]
                go_simp
                exact ⟨_, rfl, rfl, Below.refl _ _⟩
              · refine ⟨fun h => absurd h (by decide), fun _ b => stepJ_of hKB hJB fun a9 w1 hk hj hsm hr => ?_⟩
                have e148 : a9.tmps.getD 148 undef = .pointer (some ⟨w.heap.size, 1, none⟩) := hr 148 (by decide) (by apply Array.mem_toList_iff.1; repeat (first | exact List.Mem.head _ | apply List.Mem.tail))
                have cc0 := (HBO6.out.grown hk (Ne.symm hneO)).cell 1
                simp only [List.getElem?_toArray, List.getElem?_cons_succ, List.getElem?_cons_zero] at cc0
                rw [Array.getD_eq_getD_getElem?] at e148
                unfold Oper.wp
                simp only [execOp, Act.eval, Array.getD_eq_getD_getElem?, e148]
                go_simp
                exact ⟨_, rfl, rfl, Below.refl _ _⟩
              · refine ⟨fun h => absurd h (by decide), fun _ b => stepJ_of hKB hJB fun a9 w1 hk hj hsm hr => ?_⟩
                have e1 : a9.tmps.getD 1 undef = .slice (some a) len cap := hsm 1 (by decide)
                rw [Array.getD_eq_getD_getElem?] at e1
                unfold Oper.wp
                simp only [execOp, Act.eval, Array.getD_eq_getD_getElem?, e1]
                go_simp
                exact ⟨_, rfl, rfl, Below.refl _ _⟩
              · refine ⟨fun h => absurd h (by decide), fun _ b => stepJ_of hKB hJB fun a9 w1 hk hj hsm hr => ?_⟩
                have e7 : a9.tmps.getD 7 undef = .int .i64 j := hsm 7 (by decide)
                rw [Array.getD_eq_getD_getElem?] at e7
                unfold Oper.wp
                simp only [execOp, Act.eval, Array.getD_eq_getD_getElem?, e7]
                go_simp
                exact ⟨_, rfl, rfl, Below.refl _ _⟩
              · refine ⟨fun h => absurd h (by decide), fun _ b => stepJ_of hKB hJB fun a9 w1 hk hj hsm hr => ?_⟩
                have e150 : a9.tmps.getD 150 undef = .slice (some a) len cap := hr 150 (by decide) (by apply Array.mem_toList_iff.1; repeat (first | exact List.Mem.head _ | apply List.Mem.tail))
                have e151 : a9.tmps.getD 151 undef = .int .i64 j := hr 151 (by decide) (by apply Array.mem_toList_iff.1; repeat (first | exact List.Mem.head _ | apply List.Mem.tail))
                rw [Array.getD_eq_getD_getElem?] at e150
                rw [Array.getD_eq_getD_getElem?] at e151
                unfold Oper.wp
                simp only [execOp, Act.eval, Array.getD_eq_getD_getElem?, e150, e151]
                go_simp
                exact ⟨_, rfl, rfl, Below.refl _ _⟩
              · refine ⟨fun h => absurd h (by decide), fun _ b => stepJ_of hKB hJB fun a9 w1 hk hj hsm hr => ?_⟩
                have e152 : a9.tmps.getD 152 undef = .pointer (some (a.add (j * 2))) := hr 152 (by decide) (by apply Array.mem_toList_iff.1; repeat (first | exact List.Mem.head _ | apply List.Mem.tail))
                rw [Array.getD_eq_getD_getElem?] at e152
                unfold Oper.wp
                simp only [execOp, Act.eval, Array.getD_eq_getD_getElem?, e152]
                go_simp
                exact ⟨_, rfl, rfl, Below.refl _ _⟩
              · refine ⟨fun h => absurd h (by decide), fun _ b => stepJ_of hKB hJB fun a9 w1 hk hj hsm hr => ?_⟩
                have e153 : a9.tmps.getD 153 undef = .pointer (some (a.add (j * 2))) := hr 153 (by decide) (by apply Array.mem_toList_iff.1; repeat (first | exact List.Mem.head _ | apply List.Mem.tail))
                have cc0 := (HC0.out _ (HB6.out.grown hk HB6.out.size hlow)).trans ((HC0.out _ HB6.out).symm.trans c0)
                rw [Array.getD_eq_getD_getElem?] at e153
                unfold Oper.wp
                simp only [execOp, Act.eval, Array.getD_eq_getD_getElem?, e153]
                go_simp
                exact ⟨_, rfl, rfl, Below.refl _ _⟩
              · refine ⟨fun h => absurd h (by decide), fun _ b => stepJ_of hKB hJB fun a9 w1 hk hj hsm hr => ?_⟩
                have e154 : a9.tmps.getD 154 undef = .int .i64 rk := hr 154 (by decide) (by apply Array.mem_toList_iff.1; repeat (first | exact List.Mem.head _ | apply List.Mem.tail))
                have hsz := hk.size
                rw [Array.getD_eq_getD_getElem?] at e154
                unfold Oper.wp
                simp only [execOp, Act.eval, Array.getD_eq_getD_getElem?, e154]
                go_simp
                exact ⟨_, rfl, ⟨w1.heap.size, rfl, hsz, Blk.new w1 3 _⟩, (Below.refl _ _).alloc (Nat.le_refl _) _⟩
              · refine ⟨fun _ a9 w1 hk hj hsm hr => ?_, fun h => absurd rfl h⟩
                have e149 : a9.tmps.getD 149 undef = .slice R j rc := hr 149 (by decide) (by apply Array.mem_toList_iff.1; repeat (first | exact List.Mem.head _ | apply List.Mem.tail))
                have e155 : ∃ b, a9.tmps.getD 155 undef = .slice (some ⟨b, 0, none⟩) 1 1 ∧ w6.heap.size ≤ b ∧ Blk w1 b 3 #[.int .i64 rk] := hr 155 (by decide) (by apply Array.mem_toList_iff.1; repeat (first | exact List.Mem.head _ | apply List.Mem.tail))
                obtain ⟨b, e155', hb, hbb⟩ := e155
                have hj : w1.ownsRow w.heap.size 3 1 (.slice R j rc) j (ints (natI (ranksL (evN F) j))) := hj
                have hrd : Reads w1 w1.heap.size 1 (some ⟨b, 0, none⟩) 1 [.int .i64 rk] := ⟨rfl, fun _ => ⟨_, rfl, hbb.lt, fun j u hu => by rw [add_lit, hbb.cell]; simpa using hu⟩⟩
                obtain ⟨i0, hi0, hz0, hz1, hz2⟩ := info_parts int_info
                obtain ⟨v', w'', hrun, hown', hgb, _⟩ := run_append_any (P := Try.prog) w1 w.heap.size 28 28 3 i0 _ 1 8 Try.underlying28 hi0 hz0 hz1 hz2 (by rfl) (by omega) _ _ _ hj w1.heap.size (some ⟨b, 0, none⟩) 1 1 _ hrd (by intro u hu; rw [List.mem_singleton.1 hu]; rfl) (by unfold maxLen; omega) (by omega) (by have := hk.size; have := HB6.out.size; omega)
                rw [hrow] at hgb
                exact Lib.wp_append_run w1 (.tmp 149) (.tmp 155) 28 28 rfl _ _ e149 e155' v' w'' hrun ⟨v', rfl, fun t ht => by cases ht; exact True.intro, hgb, hown'⟩
          have hv : _ = Value.int .i64 (i : Int) := hv.trans (by congr 1; omega)
          subst hv
          have hilI : (i : Int) < (len : Int) := by omega
          have BRs := hide (BR.out.to (f' := fun m => f m || (decide (m < 0) && ahB (evN F) i m)) (fun m _ => by simp))
          clear BR
          go_wp2_with fail
          go_loopw [13] (fun vi ws => ∃ (q : Nat), q ≤ i ∧ vi = .int .i64 q ∧ Hid (f i = false → q = 0) ∧ Hid (BRow ws W0.heap.size W0.heap.size len (fun m => f m || (decide (m < q) && ahB (evN F) i m))) ∧ Hid (Below W0.heap.size W0 ws)) (fun vi _ => i - (intOf vi).toNat)
          case atStart => exact ⟨0, by omega, rfl, hide (fun _ => rfl), BRs, HBj⟩
          case round =>
            clear BRs HBj
            obtain ⟨q, hq, rfl, HQ, BR, HBj⟩ := hrel
            rename World => ws4
            by_cases hqi : q < i
            rotate_left
            · have hqiI : ¬ (q : Int) < (i : Int) := by omega
              have PT2 := hide (PT.out.next HQ.out (.inl (by omega)))
              go_wp2_with fail
              go_roundw
              case rel => exact ⟨i, _, by omega, by go_num, PT2, BR, HBj⟩
              case measure => simp [intOf] <;> omega
            have hqiI : (q : Int) < (i : Int) := by omega
            have ci := BR.out.cell (m := i) (by omega)
            have e1 : (f i || (decide (i < q) && ahB (evN F) i i)) = f i := by
              have : ¬ i < q := by omega
              simp [this]
            rw [e1] at ci
            clear e1
            have hqlI : (q : Int) < (len : Int) := by omega
            cases hfi : f i with
            | false =>
              have PT2 := hide (PT.out.next HQ.out (.inr hfi))
              rw [hfi] at ci
              clear hfi
              go_wp2_with fail
              go_roundw
              case rel => exact ⟨i, _, by omega, by go_num, PT2, BR, HBj⟩
              case measure => simp [intOf] <;> omega
            | true =>
              have HQ2 : Hid (true = false → q + 1 = 0) := hide (fun h => by cases h)
              rw [hfi] at ci
              clear hfi
              obtain ⟨R, rc, gA, ac, b, cg, brow⟩ := (RF.out.below HBj.out).row (i := i) (by have := HLEN.out; omega)
              rw [HLEN.out] at b
              have b2 := b.cell 2
              simp only [List.getElem?_toArray, List.getElem?_cons_succ, List.getElem?_cons_zero] at b2
              have hijI : (i : Int) < (j : Int) := by omega
              have ca := brow.cell (m := q) (by omega)
              have cq := BR.out.cell (m := q) (by omega)
              have e2 : (f q || (decide (q < q) && ahB (evN F) i q)) = f q := by simp
              rw [e2] at cq
              have cf := BR.out.frozen q
              have SET := hide (fun (v : Bool) (hv : v = (f q || ahB (evN F) i q)) => And.intro ((BR.out.set_ q v).to (f' := fun m => f m || (decide (m < q + 1) && ahB (evN F) i m)) (fun m _ => by
                by_cases em : m = q
                · subst em; simp [hv]
                · simp only [if_neg em]
                  have : m < q + 1 ↔ m < q := by omega
                  simp [this])) (HBj.out.setCell (p := ⟨W0.heap.size, q, none⟩) (Nat.le_refl _) (.bool v)))
              clear e2 b brow
              obtain ⟨x, hx⟩ : ∃ x, f q = x := ⟨_, rfl⟩
              obtain ⟨y, hy⟩ : ∃ y, ahB (evN F) i q = y := ⟨_, rfl⟩
              rw [hx, hy] at SET
              rw [hx] at cq
              rw [hy] at ca
              clear hx hy
              cases x with
              | true =>
                have ST := SET.out true (by simp)
                have BR5 := hide ST.1
                have HB5 := hide ST.2
                clear ST
                go_wp2_with fail
                go_roundw
                case rel => exact ⟨q + 1, by omega, by go_num, HQ2, BR5, HB5⟩
                case measure => simp [intOf] <;> omega
              | false =>
                have ST := SET.out y (by simp)
                have BR5 := hide ST.1
                have HB5 := hide ST.2
                clear ST
                go_wp2_with fail
                go_roundw
                case rel => exact ⟨q + 1, by omega, by go_num, HQ2, BR5, HB5⟩
                case measure => simp [intOf] <;> omega
end Ord
end Go.Proofs.Ytflaikhkddjfjaa
