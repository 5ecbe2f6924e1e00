/- Whether a group may be: the document of calls. -/
import Derived.Test.YthbedpcgbabniaaRows
import Derived.Test.YthbedpcgbabniaaCalK
import Derived.BigQuiet
namespace Go.Proofs.Ythbedpcgbabniaa
open Go Go.RowKit Go.Lib Go.Proofs.Ythbedpcgbabniaa.Grp
set_option linter.unusedVariables false
set_option linter.unusedSimpArgs false
namespace Cal
theorem mem_take {l : List Int} {k : Nat} {z : Int} (h : z ∈ l.take k) (hk : k ≤ l.length) : ∃ m, m < k ∧ l.getD m 0 = z := by
  obtain ⟨m, hm, e⟩ := List.getElem_of_mem h
  rw [List.length_take] at hm
  refine ⟨m, by omega, ?_⟩
  rw [List.getElem_take] at e
  rw [List.getD, List.getElem?_eq_getElem (by omega)]
  exact e
theorem take_mem {l : List Int} {m k : Nat} (h : m < k) (hk : k ≤ l.length) : l.getD m 0 ∈ l.take k := by
  rw [List.getD, List.getElem?_eq_getElem (by omega)]
  have : (l.take k)[m]'(by rw [List.length_take]; omega) = l[m] := List.getElem_take
  show l[m] ∈ l.take k
  rw [← this]
  exact List.getElem_mem _
set_option maxRecDepth 100000 in
set_option maxHeartbeats 4000000 in
theorem mayGroup_b (key : ByteArray) (A : Option Addr) (cap : Nat) (l : List Int) (w : World) (h : NRow w A l) (hl : l.length ≤ 1000) :
    Calls Try.prog 21 #[.agg #[.string key, .slice A l.length cap]] w fun e w' => e = .returned (.bool (decide (mayL l))) ∧ Below w.heap.size w w' := by
  have bk := Blk.new w 26 #[.string key, .slice A l.length cap]
  have hb1 := (Below.refl w.heap.size w).alloc (Nat.le_refl _) (.cells #[.string key, .slice A l.length cap] 26)
  have hlt1 : w.heap.size < (w.alloc (.cells #[.string key, .slice A l.length cap] 26)).heap.size := by simp
  obtain ⟨W1, hW1⟩ : ∃ W1, w.alloc (.cells #[.string key, .slice A l.length cap] 26) = W1 := ⟨_, rfl⟩
  rw [hW1] at bk hb1 hlt1
  have q1 : W1.cell? ⟨w.heap.size, 1, none⟩ = some (.slice A l.length cap) := bk.cell 1
  have HB := hide hb1
  have H := hide h
  have Q1 := hide q1
  clear hb1 h bk
  have NR := hide (fun k hk hz => @not_ok_range l k hk hz)
  have NT := hide (fun k hk hz => @not_ok_twice l k hk hz)
  have TS := hide (fun k hk => take_snoc l k hk)
  have MT := hide (fun k z hz hk => @mem_take l k z hz hk)
  have TM := hide (fun m k h hk => @take_mem l m k h hk)
  have YES : Hid (1 ≤ l.length → l.length ≤ 64 → okL (l.take l.length) → decide (mayL l) = true) := hide fun h1 h2 ho => decide_eq_true ⟨h1, h2, by rwa [List.take_length] at ho⟩
  have NO1 : Hid (l.length < 1 → decide (mayL l) = false) := hide fun h => decide_eq_false fun hm => by have := hm.1; omega
  have NO2 : Hid (64 < l.length → decide (mayL l) = false) := hide fun h => decide_eq_false fun hm => by have := hm.2.1; omega
  have NO : Hid (¬ mayL l → decide (mayL l) = false) := hide fun hn => decide_eq_false hn
  generalize decide (mayL l) = res at *
  clear hl
  go_enter Try.func21, Try.ntmps21
  go_wp2_with fail
  go_loopw [3] (fun vi wr => ∃ (k : Nat), k ≤ l.length ∧ k ≤ 65 ∧ vi = .int .i64 k ∧ Hid (okL (l.take k)) ∧ Hid (Below W1.heap.size W1 wr)) (fun vi _ => l.length - (RowKit.intOf vi).toNat)
  case atStart => exact ⟨0, by omega, by omega, rfl, hide okL_nil, hide (Below.refl _ _)⟩
  case round =>
    obtain ⟨wo, rfl⟩ : ∃ wo, wo = wr := ⟨wr, rfl⟩
    obtain ⟨k, hk, hk65, rfl, HO, HBr⟩ := hrel
    have HBw := hide (HB.out.trans (HBr.out.mono HB.out.size))
    have q1 : wo.cell? ⟨w.heap.size, 1, none⟩ = some (.slice A l.length cap) := (HBr.out.cell (p := ⟨w.heap.size, 1, none⟩) hlt1).trans Q1.out
    by_cases hltb : k < l.length ∧ k < 65
    · obtain ⟨hlt, h65⟩ := hltb
      have h65I : (k : Int) < 65 := by omega
      obtain ⟨a, rfl, ha, hc⟩ := H.out.below HBw.out (by omega)
      have hck := hc k hlt
      have hltI : (k : Int) < (l.length : Int) := by omega
      have NRk := hide (NR.out k hlt)
      have NTk := hide (NT.out k hlt)
      have TSk := hide (TS.out k hlt)
      have MTk := hide (fun hz => MT.out k (l.getD k 0) hz hk)
      have TMk := hide (fun m hm => TM.out m k hm hk)
      have HC := hide hc
      clear hc
      generalize hz : l.getD k 0 = z at *
      have HZ := hide hz
      clear hz
      by_cases z0 : z < 0
      · have R : res = false := NO.out (NRk.out (by omega))
        subst R
        go_wp2_with fail
        go_ret
        exact ⟨rfl, HBw.out⟩
      by_cases z1 : 63 < z
      · have R : res = false := NO.out (NRk.out (by omega))
        subst R
        go_wp2_with fail
        go_ret
        exact ⟨rfl, HBw.out⟩
      have HR := hide (show 0 ≤ z ∧ z < 64 by omega)
      go_wp2_with fail
      go_loopw [4] (fun vj wq => ∃ (m : Nat), m ≤ k ∧ vj = .int .i64 m ∧ Hid (∀ i, i < m → ¬ l.getD i 0 = z) ∧ Hid (Below wo.heap.size wo wq)) (fun vj _ => k - (RowKit.intOf vj).toNat)
      case atStart => exact ⟨0, by omega, rfl, hide (fun i h => absurd h (Nat.not_lt_zero i)), hide (Below.refl _ _)⟩
      case round =>
        obtain ⟨m, hm, rfl, HM, HBq⟩ := hrel
        have HBw2 := hide (HBw.out.trans (HBq.out.mono HBw.out.size))
        have hltw : w.heap.size < wo.heap.size := by have := HBr.out.size; omega
        have q1' : wr.cell? ⟨w.heap.size, 1, none⟩ = some (.slice (some a) l.length cap) := (HBq.out.cell (p := ⟨w.heap.size, 1, none⟩) hltw).trans q1
        have hk' : wr.cell? (a.add k) = some (.int .i64 z) := (HBq.out.cell (p := a.add k) (by rw [block_of_add]; exact ha)).trans hck
        by_cases hmk : m < k
        · have hmI : (m : Int) < (k : Int) := by omega
          have hmL : (m : Int) < (l.length : Int) := by omega
          have hm' : wr.cell? (a.add m) = some (.int .i64 (l.getD m 0)) := (HBq.out.cell (p := a.add m) (by rw [block_of_add]; exact ha)).trans (HC.out m (by omega))
          have HMm := hide (TMk.out m hmk)
          generalize hy : l.getD m 0 = y at *
          have HY := hide hy
          clear hy
          by_cases hzy : y = z
          · have R : res = false := NO.out (NTk.out (by rw [← hzy]; exact HMm.out))
            subst R
            have e3 : (y == z) = true := by simp [hzy]
            subst hzy
            go_wp2_with fail
            go_quiet (fail)
            go_wp2_with fail
            go_ret
            exact ⟨rfl, below_drewN HBw2.out _⟩
          · have e3 : (y == z) = false := by simpa using hzy
            have HM2 : Hid (∀ i, i < m + 1 → ¬ l.getD i 0 = z) := hide fun i hi => by
              rcases Nat.lt_or_ge i m with h7 | h7
              · exact HM.out i h7
              · obtain rfl : i = m := by omega
                rw [HY.out]; exact hzy
            have HZY := hide hzy
            clear hzy
            go_wp2_with fail
            go_quiet (fail)
            go_wp2_with fail
            go_roundw
            case rel => exact ⟨m + 1, by omega, by first | trivial | go_num, HM2, hide (below_drewN HBq.out _)⟩
            case measure => simp [RowKit.intOf]; omega
        · have hm2 : m = k := by omega
          have hmI : ¬ (m : Int) < (k : Int) := by omega
          have HO2 : Hid (okL (l.take (k + 1))) := hide (by
            rw [TSk.out]
            refine okL_snoc HO.out HR.out fun hz => ?_
            obtain ⟨i, hi, he⟩ := MTk.out hz
            exact HM.out i (by omega) he)
          clear hm2
          go_wp2_with fail
          go_roundw
          case rel => exact ⟨k + 1, by omega, by omega, by first | trivial | go_num, HO2, hide (HBr.out.trans (HBq.out.mono HBr.out.size))⟩
          case measure => simp [RowKit.intOf]; omega
    · obtain ⟨n, hn⟩ : ∃ n, l.length = n := ⟨_, rfl⟩
      rw [hn] at q1 hk YES NO1 NO2 hltb ⊢
      have HNN := hide hn
      have HO2 := HO
      by_cases hlt : k < n
      · have hltI : (k : Int) < (n : Int) := by omega
        have h65I : ¬ (k : Int) < 65 := by omega
        have R : res = false := NO2.out (by omega)
        subst R
        have g1 : (1 : Int) ≤ (n : Int) := by omega
        have g2 : ¬ (n : Int) ≤ 64 := by omega
        have g3 : (64 : Int) < (n : Int) := by omega
        have D := hide (decide_eq_false g2)
        clear hn hltb
        go_wp2_with fail
        go_ret
        first
          | exact ⟨rfl, HBw.out⟩
          | exact ⟨by show Ending.returned (.bool (decide ((n : Int) ≤ 64))) = _; rw [D.out], HBw.out⟩
      · obtain rfl : k = n := by omega
        have hltI : ¬ (k : Int) < (k : Int) := by omega
        by_cases h1 : k < 1
        · have R : res = false := NO1.out h1
          subst R
          have g1 : (k : Int) < 1 := by omega
          have HH := hide h1
          clear hn hltb h1
          go_wp2_with fail
          go_ret
          exact ⟨rfl, HBw.out⟩
        by_cases h2 : 64 < k
        · have R : res = false := NO2.out h2
          subst R
          have g1 : (1 : Int) ≤ (k : Int) := by omega
          have g2 : ¬ (k : Int) ≤ 64 := by omega
          have g3 : (64 : Int) < (k : Int) := by omega
          have D := hide (decide_eq_false g2)
          have HH := hide h1
          have HH2 := hide h2
          clear hn hltb h1 h2
          go_wp2_with fail
          go_ret
          first
            | exact ⟨rfl, HBw.out⟩
            | exact ⟨by show Ending.returned (.bool (decide ((k : Int) ≤ 64))) = _; rw [D.out], HBw.out⟩
        · have R : res = true := YES.out (by omega) (by omega) (HO2.out)
          subst R
          have g1 : (1 : Int) ≤ (k : Int) := by omega
          have g2 : (k : Int) ≤ 64 := by omega
          have HH := hide h1
          have HH2 := hide h2
          clear hn hltb h1 h2
          go_wp2_with fail
          go_ret
          exact ⟨rfl, HBw.out⟩
end Cal
end Go.Proofs.Ythbedpcgbabniaa
