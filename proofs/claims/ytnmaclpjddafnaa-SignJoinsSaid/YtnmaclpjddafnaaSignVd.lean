/- slices.Compact at choices: the walk. -/
import Derived.Test.YtnmaclpjddafnaaRows
import Derived.Test.YtnmaclpjddafnaaSignVc
namespace Go.Proofs.Ytnmaclpjddafnaa
open Go Go.RowKit Go.Sort Go.Lib
set_option linter.unusedVariables false
set_option linter.unusedSimpArgs false
namespace Jn
theorem hold5 {W : World} {g : Nat} {d : Array Ch} (h : HoldsK chC 5 W g 0 d) {i : Nat} (hi : i < d.size) :
    W.cell? ⟨g, i * 5, none⟩ = some (.int .i64 d[i]!.r) ∧ W.cell? ⟨g, i * 5 + 1, none⟩ = some (.int .i64 d[i]!.c) ∧ W.cell? ⟨g, i * 5 + 2, none⟩ = some (.int .i64 d[i]!.f) ∧ W.cell? ⟨g, i * 5 + 3, none⟩ = some (.int .i64 d[i]!.s) ∧ W.cell? ⟨g, i * 5 + 4, none⟩ = some (.int .i64 d[i]!.v) := by
  have k : ∀ c, c < 5 → W.cell? ⟨g, i * 5 + c, none⟩ = some (chC d[i]!)[c]! := fun c hc => by
    have := (h.cell hi hc).1
    rwa [Nat.zero_add] at this
  exact ⟨k 0 (by omega), k 1 (by omega), k 2 (by omega), k 3 (by omega), k 4 (by omega)⟩
theorem froz5 {W : World} {g : Nat} {d : Array Ch} (h : HoldsK chC 5 W g 0 d) {i : Nat} (hi : i < d.size) :
    W.frozen? ⟨g, i * 5, none⟩ = false ∧ W.frozen? ⟨g, i * 5 + 1, none⟩ = false ∧ W.frozen? ⟨g, i * 5 + 2, none⟩ = false ∧ W.frozen? ⟨g, i * 5 + 3, none⟩ = false ∧ W.frozen? ⟨g, i * 5 + 4, none⟩ = false := by
  have k : ∀ c, c < 5 → W.frozen? ⟨g, i * 5 + c, none⟩ = false := fun c hc => by
    have := (h.cell hi hc).2
    rwa [Nat.zero_add] at this
  exact ⟨k 0 (by omega), k 1 (by omega), k 2 (by omega), k 3 (by omega), k 4 (by omega)⟩
/-- The row is put so, in a world that has only drawn beside it. -/
def Put (w wr : World) (g : Nat) (dk : Array Ch) : Prop := ∃ q, wr = putRowK chC 5 (Sort.ahead w q) g 0 dk
theorem Put.holds {w wr : World} {g : Nat} {d dk : Array Ch} (h : Put w wr g dk) (hH : HoldsK chC 5 w g 0 d) (hs : dk.size = d.size) : HoldsK chC 5 wr g 0 dk := by
  obtain ⟨q, rfl⟩ := h
  exact holdsK_putRowK chC 5 _ g 0 d dk (holdsK_ahead chC 5 w q g 0 d hH) hs
theorem Put.drewN {w wr : World} {g : Nat} {dk : Array Ch} (h : Put w wr g dk) (n : Nat) : Put w (wr.drewN n) g dk := by
  obtain ⟨q, rfl⟩ := h
  exact ⟨q + n, putRowK_drewN chC 5 w q n g 0 dk⟩
theorem Put.store {w wr : World} {g : Nat} {dk : Array Ch} (h : Put w wr g dk) (i : Nat) (x : Ch) (hi : i < dk.size) :
    Put w (((((wr.setCell ⟨g, i * 5, none⟩ (.int .i64 x.r)).setCell ⟨g, i * 5 + 1, none⟩ (.int .i64 x.c)).setCell ⟨g, i * 5 + 2, none⟩ (.int .i64 x.f)).setCell ⟨g, i * 5 + 3, none⟩ (.int .i64 x.s)).setCell ⟨g, i * 5 + 4, none⟩ (.int .i64 x.v)) g (dk.setIfInBounds i x) := by
  obtain ⟨q, hq⟩ := h
  exact ⟨q, store_ch i x hi hq⟩
theorem Put.grown {w wr : World} {g : Nat} {dk : Array Ch} (h : Put w wr g dk) : w.grownBy wr (some g) := by
  obtain ⟨q, rfl⟩ := h
  exact grown_put w g q _
theorem put_clear {w wl : World} {g : Nat} {d dk : Array Ch} {kk : Nat} {L : List Ch} {Z : List Value} (h : Put w wl g dk) (hH : HoldsK chC 5 w g 0 d) (hs : dk.size = d.size) (hk : kk ≤ d.size) (hZ : Z.length = (d.size - kk) * 5) (hL : L.length = kk) (hlow : ∀ j, j < kk → L[j]? = some dk[j]!) :
    HoldsK chC 5 (wl.setCells g (kk * 5) Z) g 0 L.toArray ∧ w.grownBy (wl.setCells g (kk * 5) Z) (some g) := by
  obtain ⟨q, rfl⟩ := h
  have hb : kk * 5 + Z.length ≤ (flatK chC 5 dk).size := by rw [hZ, size_flatK, hs]; omega
  have e := setCells_putRow (Sort.ahead w q) g 0 Z (kk * 5) (flatK chC 5 dk) hb
  rw [Nat.zero_add] at e
  unfold putRowK
  rw [e]
  refine ⟨fun t ht => ?_, grown_put w g q _⟩
  have H := holds_putRow id (Sort.ahead w q) g 0 (flatK chC 5 d) (setMany (flatK chC 5 dk) (kk * 5) Z) (holdsK_ahead chC 5 w q g 0 d hH) (by simp [hs])
  have ht' : t < kk * 5 := by simpa [hL] using ht
  have htk : t < dk.size * 5 := by omega
  have h1 := H t (by rw [size_setMany, size_flatK]; exact htk)
  rw [get_setMany _ _ _ t (by rw [size_flatK]; exact htk), if_neg (by omega), get_flatK _ _ _ t htk] at h1
  rw [get_flatK _ _ _ t (by simpa [hL] using ht')]
  have hj := hlow (t / 5) (by omega)
  obtain ⟨hlt, hge⟩ := List.getElem?_eq_some_iff.1 hj
  have e2 : L.toArray[t / 5]! = dk[t / 5]! := by
    rw [getElem!_pos L.toArray (t / 5) (by simpa using hlt)]
    simpa using hge
  rw [e2]
  exact h1
set_option maxRecDepth 100000 in
set_option maxHeartbeats 8000000 in
theorem compact_c (g cap : Nat) (d : Array Ch) (w : World) (hH : HoldsK chC 5 w g 0 d) (hn : 2 ≤ d.size) (hsz : d.size ≤ 100000) (hcap : d.size ≤ cap) (hcm : cap ≤ maxLen) :
    Calls Try.prog 18 #[.slice (some ⟨g, 0, none⟩) d.size cap] w fun e w' => e = .returned (.slice (some ⟨g, 0, none⟩) (compactUpTo d d.size).length cap) ∧ HoldsK chC 5 w' g 0 (compactUpTo d d.size).toArray ∧ w.grownBy w' (some g) := by
  have HH := hide hH
  have hq : Try.prog.eqGuardType Try.prog.depth 24 = false := by kernel_rfl
  have hnI : ¬ (d.size : Int) < 2 := by omega
  have hP0 : Hid (Put w w g d) := hide ⟨0, (putRowK_self chC 5 w g 0 d hH).symm⟩
  clear hH
  go_enter Try.func18, Try.ntmps18
  go_wp2_with fail
  go_loopw [3] (fun vk wr => ∃ k : Nat, k + 1 ≤ d.size ∧ vk = .int .i64 ((k : Int) + 1) ∧ Hid (Put w wr g d) ∧ Hid (∀ j, j < k + 1 → keeps d j = true)) (fun vk _ => d.size - (intOf vk).toNat)
  case atStart => exact ⟨0, by omega, rfl, hP0, hide (keeps_lt_one d)⟩
  case round =>
    obtain ⟨k, hk, rfl, HP, HK⟩ := hrel
    rename World => wr
    clear hP0
    by_cases hlt : k + 1 < d.size
    rotate_left
    · have hltI : ¬ (k : Int) + 1 < (d.size : Int) := by omega
      have E : Hid (compactUpTo d d.size = d.toList) := hide (by rw [compactUpTo_all d _ (fun j hj => HK.out j (by omega)), range_map_get])
      go_wp2_with fail
      go_ret
      refine ⟨by rw [E.out]; simp, by rw [E.out]; simpa using HP.out.holds HH.out rfl, HP.out.grown⟩
    have hltI : (k : Int) + 1 < (d.size : Int) := by omega
    have hHw := HP.out.holds HH.out rfl
    obtain ⟨c0, c1, c2, c3, c4⟩ := hold5 hHw hlt
    obtain ⟨e0, e1, e2, e3, e4⟩ := hold5 hHw (show k < d.size by omega)
    have NQ := eqCh2 d[k + 1]! d[k]!
    have KY : Hid (¬ d[k + 1]! = d[k]! → keeps d (k + 1) = true) := hide (fun h => keeps_pos h)
    have KN : Hid (d[k + 1]! = d[k]! → keeps d (k + 1) = false) := hide (fun h => keeps_neg (by omega) h)
    have b8 : (k : Int) + 1 - 1 = (k : Int) := by omega
    have b9 : IntKind.i64.wrap ((k : Int) + 1 - 1) = (k : Int) := by rw [IntKind.wrap_i64]; omega
    have b10 : (k : Int) < (d.size : Int) := by omega
    have b11 : ((k : Int) + 1).toNat = k + 1 := by omega
    have b13 : 0 ≤ (k : Int) + 1 := by omega
    clear hHw
    generalize d[k + 1]! = x at *
    generalize d[k]! = y at *
    by_cases hxy : x = y
    · subst hxy
      have hd : decide (x = x) = true := decide_eq_true rfl
      rw [hd] at NQ
      have ST := hide (CompInv.start HK.out (KN.out rfl))
      clear hd KN KY
      obtain ⟨r, c, f, s, v⟩ := x
      simp only at c0 c1 c2 c3 c4 e0 e1 e2 e3 e4 NQ
      have hkn : k + 1 ≤ d.size := by omega
      have hknI : (k : Int) + 1 ≤ (d.size : Int) := by omega
      have hkc : k + 1 ≤ cap := by omega
      have hkcI : (k : Int) + 1 ≤ (cap : Int) := by omega
      go_wp2_with fail
      go_quiet (fail)
      go_wp2_with fail
      obtain ⟨L2, hL2⟩ : ∃ z, d.size - (k + 1) = z := ⟨_, rfl⟩
      obtain ⟨C2, hC2⟩ : ∃ z, cap - (k + 1) = z := ⟨_, rfl⟩
      rw [hL2, hC2]
      clear c0 c1 c2 c3 c4 e0 e1 e2 e3 e4 NQ
      go_loopw [3, 5] (fun v3 v5 wl => ∃ (kk m : Nat) (dk : Array Ch), v3 = .int .i64 kk ∧ v5 = .int .i64 ((m : Int) + 1) ∧ m + 1 ≤ L2 ∧ kk < d.size ∧ Hid (Put w wl g dk) ∧ Hid (CompInv d (k + 1 + (m + 1)) kk dk)) (fun _ v5 _ => L2 - (intOf v5).toNat)
      case atStart => exact ⟨k + 1, 0, d, by go_num, rfl, by omega, hlt, hide (HP.out.drewN _), ST⟩
      case round =>
        obtain ⟨kk, m, dk, rfl, rfl, hm, hkk, HPl, HI⟩ := hrel
        rename World => wl
        clear ST HP
        have hs := HI.out.size
        have hlk := HI.out.lt
        have hkkI : (kk : Int) < (d.size : Int) := by omega
        have hHl := HPl.out.holds HH.out hs
        by_cases hl2 : m + 1 < L2
        · have hl2I : (m : Int) + 1 < (L2 : Int) := by omega
          obtain ⟨c0, c1, c2, c3, c4⟩ := hold5 hHl (i := k + 1 + (m + 1)) (by omega)
          obtain ⟨e0, e1, e2, e3, e4⟩ := hold5 hHl (i := k + 1 + m) (by omega)
          rw [HI.out.high (k + 1 + (m + 1)) (by omega), show (k + 1 + (m + 1)) * 5 = (k + 1) * 5 + (m + 1) * 5 by omega] at c0
          rw [HI.out.high (k + 1 + (m + 1)) (by omega), show (k + 1 + (m + 1)) * 5 = (k + 1) * 5 + (m + 1) * 5 by omega] at c1 c2 c3 c4
          rw [HI.out.high (k + 1 + m) (by omega), show (k + 1 + m) * 5 = (k + 1) * 5 + m * 5 by omega] at e0 e1 e2 e3 e4
          obtain ⟨f0, f1, f2, f3, f4⟩ := froz5 hHl (i := kk) (by omega)
          obtain ⟨o0, o1, o2, o3, o4⟩ := hold5 hHl (i := kk) (by omega)
          have NQ := neqCh d[k + 1 + (m + 1)]! d[k + 1 + m]!
          have KY : Hid (¬ d[k + 1 + (m + 1)]! = d[k + 1 + m]! → CompInv d (k + 1 + (m + 1) + 1) (kk + 1) (dk.setIfInBounds kk d[k + 1 + (m + 1)]!)) := hide (fun h => HI.out.keep (by omega) (keeps_pos h))
          have KN : Hid (d[k + 1 + (m + 1)]! = d[k + 1 + m]! → CompInv d (k + 1 + (m + 1) + 1) kk dk) := hide (fun h => HI.out.skip (keeps_neg (by omega) h))
          have b8 : (m : Int) + 1 - 1 = (m : Int) := by omega
          have b9 : IntKind.i64.wrap ((m : Int) + 1 - 1) = (m : Int) := by rw [IntKind.wrap_i64]; omega
          have b10 : (m : Int) < (L2 : Int) := by omega
          have b11 : ((m : Int) + 1).toNat = m + 1 := by omega
          have b13 : 0 ≤ (m : Int) + 1 := by omega
          have hsz2 : kk < dk.size := by omega
          clear hHl
          generalize d[k + 1 + (m + 1)]! = x at *
          generalize d[k + 1 + m]! = y at *
          generalize dk[kk]! = o at *
          by_cases hxy : x = y
          · have hd : decide (x = y) = true := decide_eq_true hxy
            rw [hd] at NQ
            have HI2 := hide (KN.out hxy)
            clear hd KN KY hxy f0 f1 f2 f3 f4 o0 o1 o2 o3 o4
            obtain ⟨r, c, f, s, v⟩ := x
            obtain ⟨r', c', f', s', v'⟩ := y
            simp only at c0 c1 c2 c3 c4 e0 e1 e2 e3 e4 NQ
            go_wp2_with fail
            go_quiet (fail)
            go_wp2_with fail
            go_roundw
            case rel => exact ⟨kk, m + 1, dk, rfl, by go_num, by omega, hkk, hide (HPl.out.drewN _), HI2⟩
            case measure => simp [intOf]; omega
          · have hd : decide (x = y) = false := decide_eq_false hxy
            rw [hd] at NQ
            have HI2 := hide (KY.out hxy)
            clear hd KN KY hxy
            have SC := hide (fun (n : Nat) => (HPl.out.drewN n).store kk x hsz2)
            obtain ⟨r, c, f, s, v⟩ := x
            obtain ⟨r', c', f', s', v'⟩ := y
            obtain ⟨r9, c9, f9, s9, v9⟩ := o
            simp only at c0 c1 c2 c3 c4 e0 e1 e2 e3 e4 o0 o1 o2 o3 o4 NQ SC
            go_wp2_with fail
            go_quiet (fail)
            go_wp2_with fail
            go_roundw
            case rel => exact ⟨kk + 1, m + 1, _, by go_num, by go_num, by omega, by omega, hide (SC.out _), HI2⟩
            case measure => simp [intOf]; omega
        · have hl2I : ¬ (m : Int) + 1 < (L2 : Int) := by omega
          have hE : k + 1 + (m + 1) = d.size := by omega
          rw [hE] at HI
          have hfl : ∀ j, j < (d.size - kk) * 5 → wl.cell? ⟨g, kk * 5 + j, none⟩ ≠ none ∧ wl.frozen? ⟨g, kk * 5 + j, none⟩ = false := fun j hj => by
            have h9 := hHl (kk * 5 + j) (by rw [size_flatK, hs]; omega)
            rw [Nat.zero_add] at h9
            exact ⟨by rw [h9.1]; simp, h9.2⟩
          have hcl : ∀ ty, (Builtin.clear_ #[22] ty #[.slice (some ⟨g, kk * 5, none⟩) (d.size - kk) (cap - kk)]).run Try.prog wl = .ok (.tuple #[]) (wl.setCells g (kk * 5) (Builtin.zeroCells #[.int .i64 0, .int .i64 0, .int .i64 0, .int .i64 0, .int .i64 0] (d.size - kk)).toList) :=
            fun ty => run_clear_ch wl ty g (kk * 5) (d.size - kk) (cap - kk) (by omega) (fun j hj => Option.isSome_iff_ne_none.2 (hfl j hj).1) (fun j hj => (hfl j hj).2)
          have FIN := hide (put_clear HPl.out HH.out hs (show kk ≤ d.size by omega) (chZ_cells (d.size - kk)).1 HI.out.len HI.out.low)
          have LEN := hide HI.out.len
          have hkkc : kk ≤ cap := by omega
          have hkkcI : (kk : Int) ≤ (cap : Int) := by omega
          have hkkle : (kk : Int) ≤ (d.size : Int) := by omega
          have hkkle' : kk ≤ d.size := by omega
          clear hfl hHl HI
          go_wp2_with fail
          go_ret
          exact ⟨by rw [LEN.out]; rfl, FIN.out⟩
    · have hd : decide (x = y) = false := decide_eq_false hxy
      rw [hd] at NQ
      have HK2 := hide (fun j (hj : j < k + 1 + 1) => show keeps d j = true from by
        rcases Nat.lt_or_ge j (k + 1) with h | h
        · exact HK.out j h
        · obtain rfl : j = k + 1 := by omega
          exact KY.out hxy)
      clear hd KN KY hxy
      obtain ⟨r, c, f, s, v⟩ := x
      obtain ⟨r', c', f', s', v'⟩ := y
      simp only at c0 c1 c2 c3 c4 e0 e1 e2 e3 e4 NQ
      go_wp2_with fail
      go_quiet (fail)
      go_wp2_with fail
      go_roundw
      case rel => exact ⟨k + 1, by omega, by go_num, hide (HP.out.drewN _), HK2⟩
      case measure => simp [intOf]; omega
end Jn
end Go.Proofs.Ytnmaclpjddafnaa
