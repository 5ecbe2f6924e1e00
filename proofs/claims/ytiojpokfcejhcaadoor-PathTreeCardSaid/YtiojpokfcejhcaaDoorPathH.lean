/- The program's Next. -/
import Derived.Test.YtiojpokfcejhcaaDoorRows
import Derived.Test.YtiojpokfcejhcaaDoorPathG
import Derived.Deep.RegionWith
namespace Go.Proofs.YtiojpokfcejhcaaDoor
open Go Go.RowKit
set_option linter.unusedVariables false
set_option linter.unusedSimpArgs false
theorem own_set {w : World} {B g c size n k : Nat} {e : TypeId} {xs : List Value} (h : w.ownsRow B e size (.slice (some ⟨g, 0, none⟩) n c) n xs) (u : Value) : (w.setCell ⟨g, k, none⟩ u).ownsRow B e size (.slice (some ⟨g, 0, none⟩) n c) n (xs.set k u) := by
  refine ⟨by rw [List.length_set]; exact h.1, ?_⟩
  rcases h.2 with ⟨h1, _⟩ | ⟨g', cap, cur, hv, hge, hh, hnc, hm, hcs, htk⟩
  · cases h1
  · injection hv with h1 h2 h3
    injection h1 with h1
    injection h1 with h1
    subst h1
    subst h3
    have hb := (show Blk w g _ cur from hh).set_ k u
    exact .inr ⟨g, c, cur.setIfInBounds k u, rfl, hge, hb, hnc, hm, by rw [Array.size_setIfInBounds]; exact hcs, by rw [Array.toList_setIfInBounds, List.take_set, htk]⟩
/-- A row that is cut at its end. -/
theorem own_shrink {w : World} {B g c size n m : Nat} {e : TypeId} {xs : List Value} (h : w.ownsRow B e size (.slice (some ⟨g, 0, none⟩) n c) n xs) (hm : m ≤ n) : w.ownsRow B e size (.slice (some ⟨g, 0, none⟩) m c) m (xs.take (m * size)) := by
  have hms : m * size ≤ n * size := Nat.mul_le_mul_right _ hm
  refine ⟨by rw [List.length_take, h.1]; omega, ?_⟩
  rcases h.2 with ⟨h1, _⟩ | ⟨g', cap, cur, hv, hge, hh, hnc, hmx, hcs, htk⟩
  · cases h1
  · injection hv with h1 h2 h3
    injection h1 with h1
    injection h1 with h1
    subst h1
    subst h3
    exact .inr ⟨g, c, cur, rfl, hge, hh, by omega, hmx, hcs, by rw [← htk, List.take_take, Nat.min_eq_left hms]⟩
namespace Pth
def Lv.on (x : Lv) : Lv := { x with at_ := x.at_ + 1 }
def nextR : List Lv → List Lv
  | [] => []
  | x :: r => if 0 < leftN x then x.on :: r else nextR r
def nextL (ls : List Lv) : List Lv := (nextR ls.reverse).reverse
theorem nextL_nil : nextL [] = [] := rfl
theorem nextL_snoc (ls : List Lv) (x : Lv) : nextL (ls ++ [x]) = if 0 < leftN x then ls ++ [x.on] else nextL ls := by
  unfold nextL
  rw [List.reverse_append]
  show (nextR (x :: ls.reverse)).reverse = _
  rw [nextR]
  split
  · simp
  · rfl
theorem on_fit {x : Lv} (h : x.fit) (hl : 0 < leftN x) : x.on.fit := by
  obtain ⟨h0, h1, h2⟩ := h
  refine ⟨h0, h1, ?_⟩
  unfold leftN at hl
  show x.at_ + 1 + 1 ≤ many x.on
  have : many x.on = many x := rfl
  omega
theorem nextR_fit : ∀ (ls : List Lv), (∀ x ∈ ls, x.fit) → ∀ x ∈ nextR ls, x.fit
  | [], _, x, hx => by cases hx
  | y :: l, h, x, hx => by
    rw [nextR] at hx
    split at hx
    · rename_i hl
      rcases List.mem_cons.1 hx with rfl | hx
      · exact on_fit (h y List.mem_cons_self) hl
      · exact h x (List.mem_cons_of_mem _ hx)
    · exact nextR_fit l (fun z hz => h z (List.mem_cons_of_mem _ hz)) x hx
theorem nextL_fit {ls : List Lv} (h : ∀ x ∈ ls, x.fit) : ∀ x ∈ nextL ls, x.fit := fun x hx => nextR_fit ls.reverse (fun y hy => h y (List.mem_reverse.1 hy)) x (List.mem_reverse.1 hx)
theorem lvCs_on (ls : List Lv) (x : Lv) : lvCs (ls ++ [x.on]) = (lvCs (ls ++ [x])).set (ls.length * 5 + 4) (.int .i64 ((x.at_ + 1 : Nat) : Int)) := by
  rw [lvCs_app, lvCs_app, List.set_append_right _ _ (by rw [lvCs_len]; omega), lvCs_len, Nat.add_sub_cancel_left]
  rfl
/-- What Next may write. -/
def stB (w : World) (T : Nat) : List Nat := T :: (match w.cell? ⟨T, 1, none⟩ with | some v => v.ownBlock.toList | none => [])
theorem StA.keeps {w : World} {T B : Nat} {ls : List Lv} (h : StA w T B ls) {w' : World} (ho : Only (stB w T) w w') : KeepsBut [59, 54] w w' := by
  obtain ⟨v, hb, own⟩ := h.tab
  have hc : w.cell? ⟨T, 1, none⟩ = some v := hb.cell 1
  refine ho.keeps fun j cc ty fz hj hcj => ?_
  unfold stB at hj
  rw [hc] at hj
  rcases List.mem_cons.1 hj with rfl | hj
  · rw [blk_type hb hcj]; exact List.mem_cons_of_mem _ List.mem_cons_self
  · obtain ⟨_, _, cs, hcs⟩ := own_block own (Option.mem_toList.1 hj)
    rw [blk_type hcs hcj]; exact List.mem_cons_self
theorem stB_sub {w w' : World} {T m m' c c' : Nat} {A : Option Addr} (h : w.cell? ⟨T, 1, none⟩ = some (.slice A m c)) (h' : w'.cell? ⟨T, 1, none⟩ = some (.slice A m' c')) : ∀ j ∈ stB w' T, j ∈ stB w T := by
  have e : (Value.slice A m' c').ownBlock = (Value.slice A m c).ownBlock := by cases A <;> rfl
  unfold stB
  rw [h, h']
  simp only [e]
  exact fun _ hj => hj
def stN (w : World) (T : Nat) : Nat := match w.cell? ⟨T, 1, none⟩ with | some (.slice _ m _) => m | _ => 0
theorem stN_of {w : World} {T m c : Nat} {A : Option Addr} (h : w.cell? ⟨T, 1, none⟩ = some (.slice A m c)) : stN w T = m := by unfold stN; rw [h]
set_option maxRecDepth 100000 in
set_option maxHeartbeats 8000000 in
theorem Next_a (T B : Nat) (ls : List Lv) (w : World) (ht : StA w T B ls) (hBT : B ≤ T) (hf : ∀ x ∈ ls, x.fit) :
    Calls Tryd.prog 14 #[.pointer (some ⟨T, 0, none⟩)] w fun e w' => e = .returned (.bool (decide (0 < (nextL ls).length))) ∧ StA w' T B (nextL ls) ∧ Below B w w' ∧ Only (stB w T) w w' ∧ ∀ j ∈ stB w' T, j ∈ stB w T := by
  obtain ⟨v0, hbT0, ho0⟩ := ht.tab
  have q0 : w.cell? ⟨T, 0, none⟩ = some (.bool true) := hbT0.cell 0
  have hc0 : w.cell? ⟨T, 1, none⟩ = some v0 := hbT0.cell 1
  obtain ⟨A, cp, rfl⟩ := own_form ho0
  have MD := hide (made_a T true w q0)
  have HST := hide (show stB w T = T :: (Value.slice A ls.length cp).ownBlock.toList by unfold stB; rw [hc0])
  have HC0 := hide hc0
  have HBT := hide hBT
  have HBW := hide (show B ≤ w.heap.size by have := hbT0.lt; omega)
  have S0 : Hid (∃ ms : List Lv, StA w T B ms ∧ w.cell? ⟨T, 1, none⟩ = some (.slice A ms.length cp) ∧ nextL ls = nextL ms ∧ (∀ x ∈ ms, x.fit)) := hide ⟨ls, ht, hc0, rfl, hf⟩
  have HL := hide ht.le
  clear hBT hbT0 ho0 ht hf hc0
  go_enter Tryd.func14, Tryd.ntmps14
  go_wp2_with fail
  go_step3
  go_wp2_with fail
  refine MD.out.mono ?_
  rintro e w1 ⟨rfl, rfl⟩
  go_wp2_with fail
  go_step3
  go_wp2_with fail
  go_loopw [] (fun wr => Hid (∃ ms : List Lv, StA wr T B ms ∧ wr.cell? ⟨T, 1, none⟩ = some (.slice A ms.length cp) ∧ nextL ls = nextL ms ∧ (∀ x ∈ ms, x.fit)) ∧ Hid (Below B w wr) ∧ Hid (Only (stB w T) w wr)) (fun wr => stN wr T)
  case atStart => exact ⟨S0, hide (Below.refl _ _), hide (Only.of_below (Below.refl _ _))⟩
  case round =>
    clear S0 q0
    obtain ⟨HS, HB, HO⟩ := hrel
    obtain ⟨ms, hst, hT1, hnx, hfit⟩ := HS.out
    clear HS
    by_cases hms : ms = []
    · subst hms
      have FIN := hide (show StA wr T B (nextL ls) by rw [hnx]; exact hst)
      have HNX := hide hnx
      have HSB := hide (stB_sub HC0.out hT1)
      have hT1 : wr.cell? ⟨T, 1, none⟩ = some (.slice A 0 cp) := hT1
      clear hst hnx hfit
      go_wp2_with fail
      rw [Exit.noGoto_ret]
      go_ret
      refine ⟨?_, FIN.out, HB.out, HO.out, HSB.out⟩
      rw [HNX.out]
      rfl
    obtain ⟨L, b, rfl⟩ : ∃ L b, ms = L ++ [b] := ⟨ms.dropLast, ms.getLast hms, (List.dropLast_concat_getLast hms).symm⟩
    obtain ⟨v, hbT, own⟩ := hst.tab
    have e2 : wr.cell? ⟨T, 1, none⟩ = some v := hbT.cell 1
    rw [hT1] at e2
    obtain rfl : Value.slice A (L ++ [b]).length cp = v := by simpa using e2
    have hrows := hst.rows
    have hle := hst.le
    obtain ⟨A', c', hbT', hrow⟩ := hst.open_
    have e3 : wr.cell? ⟨T, 1, none⟩ = some (.slice A' (L ++ [b]).length c') := hbT'.cell 1
    rw [hT1] at e3
    obtain ⟨rfl, rfl⟩ : A = A' ∧ cp = c' := by simpa using e3
    have hlen : (L ++ [b]).length = L.length + 1 := by simp
    obtain ⟨g, rfl, hge, hbg, hfr, c0, c1, c2, c3, c4⟩ := hrow L.length (by omega)
    have eb : (L ++ [b])[L.length]'(by omega) = b := by simp
    rw [eb] at c0 c1 c2 c3 c4
    have hcap : L.length + 1 ≤ cp := by
      rcases own.2 with ⟨e, _⟩ | ⟨g', cap, cur, hv, _, _, hnc, _⟩
      · cases e
      · injection hv with _ _ h3
        rw [h3]
        omega
    have hgT : g ≠ T := fun e => own_blk_ne own hbT (by decide) (by rw [e]; rfl)
    have hbx := hfit b (by simp)
    rw [hlen] at hT1
    have LA := hide (fun (w' : World) => left_a b w' hbx)
    have hat : b.at_ ≤ 101 := by
      obtain ⟨_, h1, h2⟩ := hbx
      unfold many at h2
      split at h2 <;> omega
    have FR := hide hfr
    have hL : L.length ≤ 2000 := by omega
    have hSB : g ∈ stB w T ∧ T ∈ stB w T := by rw [HST.out]; exact ⟨List.mem_cons_of_mem _ (Option.mem_toList.2 rfl), List.mem_cons_self⟩
    by_cases hl : 0 < leftN b
    · have FIN : ∀ w2, Below wr.heap.size wr w2 → StA (w2.setCell ⟨g, L.length * 5 + 4, none⟩ (.int .i64 ((b.at_ : Int) + 1))) T B (nextL ls) ∧ Below B w (w2.setCell ⟨g, L.length * 5 + 4, none⟩ (.int .i64 ((b.at_ : Int) + 1))) ∧ Only (stB w T) w (w2.setCell ⟨g, L.length * 5 + 4, none⟩ (.int .i64 ((b.at_ : Int) + 1))) ∧ (w2.setCell ⟨g, L.length * 5 + 4, none⟩ (.int .i64 ((b.at_ : Int) + 1))).cell? ⟨T, 1, none⟩ = some (.slice (some ⟨g, 0, none⟩) (L.length + 1) cp) := fun w2 hb2 => by
        have hk : KeepsBut [59] w2 (w2.setCell ⟨g, L.length * 5 + 4, none⟩ (.int .i64 ((b.at_ : Int) + 1))) := (Only.set_ (S := [g]) w2 (p := ⟨g, L.length * 5 + 4, none⟩) _ List.mem_cons_self).keeps fun j cc ty fz hj hcj => by
          rw [List.mem_singleton.1 hj] at hcj
          obtain ⟨cs, hcs⟩ := own_type (own_belowR own hb2)
          rw [blk_type hcs hcj]; exact List.mem_cons_self
        have hbT2 := (hbT.below hb2 hbT.lt).far (p := ⟨g, L.length * 5 + 4, none⟩) (fun e => hgT e.symm) (.int .i64 ((b.at_ : Int) + 1))
        refine ⟨?_, ((HB.out.trans (hb2.mono (Nat.le_trans HBW.out HB.out.size))).setCell (p := ⟨g, L.length * 5 + 4, none⟩) hge _), (HO.out.trans (Only.of_below hb2)).trans (Only.set_ w2 _ hSB.1), ?_⟩
        · rw [hnx, nextL_snoc, if_pos hl]
          refine ⟨by simp; omega, ⟨_, hbT2, ?_⟩, fun i hi => ?_⟩
          · have := own_set (own_belowR own hb2) (k := L.length * 5 + 4) (.int .i64 ((b.at_ : Int) + 1))
            have e : (.int .i64 ((b.at_ : Int) + 1) : Value) = .int .i64 ((b.at_ + 1 : Nat) : Int) := by simp
            rw [lvCs_on, show (L ++ [b.on]).length = (L ++ [b]).length by simp, ← e]
            exact this
          · by_cases hi2 : i < L.length
            · have h1 := hrows i (by omega)
              rw [List.getElem_append_left hi2] at h1 ⊢
              exact (h1.keep fun g' hg' => hb2.block g' (h1.lt hg')).keep fun g' hg' => by
                obtain ⟨g2, cs, e1, e2, _⟩ := h1
                rw [hg'] at e1
                injection e1 with e1
                injection e1 with e1
                subst e1
                exact hk.2 g' cs _ (0, 0) (e2.below hb2 e2.lt) (by decide)
            · have e : i = L.length := by rw [List.length_append, List.length_singleton] at hi; omega
              subst e
              have h1 := hrows L.length (by omega)
              rw [eb] at h1
              have eb2 : (L ++ [b.on])[L.length]'hi = b.on := by simp
              rw [eb2]
              exact (show VRow (w2.setCell ⟨g, L.length * 5 + 4, none⟩ (.int .i64 ((b.at_ : Int) + 1))) b.A b.vs from (h1.keep fun g' hg' => hb2.block g' (h1.lt hg')).keep fun g' hg' => by
                obtain ⟨g2, cs, e1, e2, _⟩ := h1
                rw [hg'] at e1
                injection e1 with e1
                injection e1 with e1
                subst e1
                exact hk.2 g' cs _ (0, 0) (e2.below hb2 e2.lt) (by decide))
        · have := hbT2.cell 1
          rw [hlen] at this
          exact this
      have NE : Hid (decide (0 < (nextL ls).length) = true) := hide (by rw [hnx, nextL_snoc, if_pos hl]; simp)
      have HFIN := hide FIN
      have C4 := hide (fun (w2 : World) (hb2 : Below wr.heap.size wr w2) => And.intro ((hb2.cell (p := ⟨g, L.length * 5 + 4, none⟩) (block_lt_of_cell c4)).trans c4) (And.intro ((hb2.frozen (p := ⟨g, L.length * 5 + 4, none⟩) (block_lt_of_cell c4)).trans (hfr (L.length * 5 + 4))) ((hb2.cell (p := ⟨T, 1, none⟩) (block_lt_of_cell hT1)).trans hT1)))
      have hlI : (0 : Int) < (leftN b : Int) := by omega
      obtain ⟨br, bc, bA, bcap, bvs, boff, bat⟩ := b
      simp only at c0 c1 c2 c3 c4 LA hat C4 HFIN
      generalize leftN ⟨br, bc, bA, bcap, bvs, boff, bat⟩ = z at *
      clear FIN hnx hfit hrows hle hbT hbT' hrow own hst hbg hfr e2 e3 hlen eb hl hbx hms hSB hge hgT
      go_wp2_with fail
      go_quiet (fail)
      go_wp2_with fail
      refine (LA.out _).mono ?_
      rintro e w2 ⟨rfl, hb2⟩
      have hb2' : Below wr.heap.size wr w2 := (below_drewN (Below.refl wr.heap.size wr) _).trans hb2
      obtain ⟨d4, f4, t1⟩ := C4.out w2 hb2'
      obtain ⟨fin1, fin2, fin3, t2⟩ := HFIN.out w2 hb2'
      have HF := hide (And.intro fin1 (And.intro fin2 (And.intro fin3 (stB_sub HC0.out t2))))
      clear hb2 hb2' fin1 fin2 fin3 c0 c1 c2 c3 c4
      go_wp2_with fail
      rw [Exit.noGoto_ret]
      go_ret
      refine ⟨?_, HF.out⟩
      rw [NE.out]
      simp
    · have hl0 : leftN b = 0 := by omega
      have FIN : ∀ w2, Below wr.heap.size wr w2 → StA (w2.setCell ⟨T, 1, none⟩ (.slice (some ⟨g, 0, none⟩) L.length cp)) T B L ∧ Below B w (w2.setCell ⟨T, 1, none⟩ (.slice (some ⟨g, 0, none⟩) L.length cp)) ∧ Only (stB w T) w (w2.setCell ⟨T, 1, none⟩ (.slice (some ⟨g, 0, none⟩) L.length cp)) ∧ (w2.setCell ⟨T, 1, none⟩ (.slice (some ⟨g, 0, none⟩) L.length cp)).cell? ⟨T, 1, none⟩ = some (.slice (some ⟨g, 0, none⟩) L.length cp) := fun w2 hb2 => by
        have hk : KeepsBut [54] w2 (w2.setCell ⟨T, 1, none⟩ (.slice (some ⟨g, 0, none⟩) L.length cp)) := (Only.set_ (S := [T]) w2 (p := ⟨T, 1, none⟩) _ List.mem_cons_self).keeps fun j cc ty fz hj hcj => by
          rw [List.mem_singleton.1 hj] at hcj
          rw [blk_type (hbT.below hb2 hbT.lt) hcj]; exact List.mem_cons_self
        have hbT2 := (hbT.below hb2 hbT.lt).set_ 1 (.slice (some ⟨g, 0, none⟩) L.length cp)
        have own2 := own_shrink (own_belowR own hb2) (show L.length ≤ (L ++ [b]).length by omega)
        have etk : (lvCs (L ++ [b])).take (L.length * 5) = lvCs L := by
          rw [lvCs_app, List.take_append_of_le_length (by rw [lvCs_len]; exact Nat.le_refl _), ← lvCs_len, List.take_length]
        rw [etk] at own2
        refine ⟨⟨by omega, ⟨_, by simpa using hbT2, own_setCell own2 (p := ⟨T, 1, none⟩) (fun e => hgT (by simpa [Value.ownBlock] using e)) _⟩, fun i hi => ?_⟩, ((HB.out.trans (hb2.mono (Nat.le_trans HBW.out HB.out.size))).setCell (p := ⟨T, 1, none⟩) HBT.out _), (HO.out.trans (Only.of_below hb2)).trans (Only.set_ w2 _ hSB.2), by simpa using hbT2.cell 1⟩
        have h1 := hrows i (by omega)
        rw [List.getElem_append_left hi] at h1
        exact (h1.keep fun g' hg' => hb2.block g' (h1.lt hg')).keep fun g' hg' => by
          obtain ⟨g2, cs, e1, e2, _⟩ := h1
          rw [hg'] at e1
          injection e1 with e1
          injection e1 with e1
          subst e1
          exact hk.2 g' cs _ (0, 0) (e2.below hb2 e2.lt) (by decide)
      have HNX := hide (show nextL ls = nextL L by rw [hnx, nextL_snoc, if_neg hl])
      have HFT := hide (fun x (hx : x ∈ L) => hfit x (List.mem_append_left _ hx))
      have HFIN := hide FIN
      have HM := hide (show stN wr T = L.length + 1 from stN_of hT1)
      have T1 := hide (fun (w2 : World) (hb2 : Below wr.heap.size wr w2) => And.intro ((hb2.cell (p := ⟨T, 1, none⟩) hbT.lt).trans hT1) ((hb2.frozen (p := ⟨T, 1, none⟩) hbT.lt).trans (hbT.frozen 1)))
      rw [hl0] at LA
      obtain ⟨br, bc, bA, bcap, bvs, boff, bat⟩ := b
      simp only at c0 c1 c2 c3 c4 LA hat
      clear FIN hnx hfit hrows hle hbT hbT' hrow own hst hbg hfr e2 e3 hlen eb hl hl0 hbx hms hSB hge hgT
      go_wp2_with fail
      go_quiet (fail)
      go_wp2_with fail
      refine (LA.out _).mono ?_
      rintro e w2 ⟨rfl, hb2⟩
      have hb2' : Below wr.heap.size wr w2 := (below_drewN (Below.refl wr.heap.size wr) _).trans hb2
      obtain ⟨t1, f1⟩ := T1.out w2 hb2'
      have HF := hide (HFIN.out w2 hb2')
      clear hb2 hb2' c0 c1 c2 c3 c4
      go_wp2_with fail
      go_region
      go_wp2_with fail
      obtain ⟨h1, h2, h3, h4⟩ := HF.out
      have hm := HM.out
      clear HF HFIN
      go_roundw
      case rel => exact ⟨hide ⟨L, h1.below (Below.refl _ _).drew, h4, HNX.out, HFT.out⟩, hide h2.drew, hide h3⟩
      case measure =>
        rw [hm, show stN (World.drew (w2.setCell ⟨T, 1, none⟩ (.slice (some ⟨g, 0, none⟩) L.length cp))) T = L.length from stN_of h4]
        omega
end Pth
end Go.Proofs.YtiojpokfcejhcaaDoor
