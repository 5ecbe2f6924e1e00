/- Where a receive stands in its row. -/
import Derived.Test.YtonmojinijpneaaRows
import Derived.Test.YtonmojinijpneaaPoC
import Derived.Test.YtonmojinijpneaaSpA
namespace Go.Proofs.Ytonmojinijpneaa
open Go Go.Joins Go.ChangeShapes Go.WideShapes Go.RowKit Go.Deep Go.Lib
set_option linter.unusedVariables false
set_option linter.unusedSimpArgs false
namespace Po
theorem cmpI_lt {a b : Int} : Sp.cmpI a b < 0 ↔ a < b := by
  unfold Sp.cmpI
  split
  · simp_all
  · split
    · simp_all
    · simp_all
theorem cmpI_eq {a b : Int} : Sp.cmpI a b = 0 ↔ a = b := by
  unfold Sp.cmpI
  split
  · constructor <;> intro h <;> omega
  · split
    · constructor <;> intro h <;> omega
    · constructor <;> intro h <;> omega
set_option maxRecDepth 100000 in
theorem placeF_c (key : ByteArray) (rk c pe tg rq : Int) (dn : Bool) (fr sq ca : Int) (w : World) : Calls Try.prog 73 #[.agg #[.string key, .int .i64 rk, .int .i64 c, .int .i64 pe, .int .i64 tg, .int .i64 rq, .bool dn, .int .i64 fr, .int .i64 sq], .int .i64 ca] w fun e w' => e = .returned (.int .i64 (Sp.cmpI c ca)) ∧ Below w.heap.size w w' := by
  have CC := hide (fun w' => Sp.compare_c c ca w')
  go_enter Try.func73, Try.ntmps73
  go_wp2_with (go_at_call 55; refine (CC.out _).mono ?_; rintro e w' ⟨rfl, rfl⟩)
  go_ret
  exact ⟨rfl, ((Below.refl _ _).alloc (Nat.le_refl _) _)⟩
theorem cmpI_self (a : Int) : Sp.cmpI a a = 0 := cmpI_eq.2 rfl
/-- What a search tells: a place, and whether it is there. -/
def Found (r : List Rc) (ca : Int) (i : Nat) (b : Bool) : Prop := i ≤ r.length ∧ (b = true → ∃ m, r[i]? = some m ∧ m.ca = ca) ∧ (b = false → ∀ m ∈ r, m.ca ≠ ca)
set_option maxRecDepth 100000 in
set_option maxHeartbeats 4000000 in
theorem bsf_c (w : World) (A : Option Addr) (cap n : Nat) (r : List Rc) (h : RRow w A r) (hn : r.length = n) (hl : n ≤ 100000) (hup : r.Pairwise fun a b => a.ca < b.ca) (ca : Int) :
    Calls Try.prog 72 #[.slice A n cap, .int .i64 ca, .func (.func 73) #[] #[]] w fun e w' => ∃ i b, e = .returned (.tuple #[.int .i64 (i : Nat), .bool b]) ∧ Found r ca i b ∧ Below w.heap.size w w' := by
  have HR := hide h
  have HN := hide hn
  have mono : Hid (∀ (i j : Nat) (a b : Rc), i < j → r[i]? = some a → r[j]? = some b → a.ca < b.ca) := hide (fun i j a b hij ha hb => by
    obtain ⟨hi, rfl⟩ := List.getElem?_eq_some_iff.1 ha
    obtain ⟨hj, rfl⟩ := List.getElem?_eq_some_iff.1 hb
    exact (List.pairwise_iff_getElem.1 hup) i j hi hj hij)
  have CC := hide (fun key rk c pe tg rq dn fr sq w' => placeF_c key rk c pe tg rq dn fr sq ca w')
  have HB0 := hide (Below.refl w.heap.size w)
  clear h hn hup
  go_enter Try.func72, Try.ntmps72
  go_wp2_with fail
  go_loopw [9, 10] (fun v9 v10 wr => ∃ lo hi : Nat, v9 = .int .i64 lo ∧ v10 = .int .i64 hi ∧ lo ≤ hi ∧ hi ≤ n ∧ Hid (Below w.heap.size w wr) ∧ Hid ((∀ t m, t < lo → r[t]? = some m → m.ca < ca) ∧ (∀ t m, hi ≤ t → r[t]? = some m → ca ≤ m.ca))) (fun v9 v10 _ => (RowKit.intOf v10).toNat - (RowKit.intOf v9).toNat)
  case atStart => exact ⟨0, n, rfl, rfl, Nat.zero_le _, Nat.le_refl _, HB0, hide ⟨fun t m ht _ => absurd ht (Nat.not_lt_zero _), fun t m ht hm => by
    have := (List.getElem?_eq_some_iff.1 hm).1
    have := HN.out
    omega⟩⟩
  case round =>
    obtain ⟨lo, hi, rfl, rfl, hlh, hin, HB, I⟩ := hrel
    rename World => wr
    by_cases hlt : lo < hi
    · have hltI : (lo : Int) < (hi : Int) := by omega
      have hmid : (lo + hi) / 2 < n := by omega
      obtain ⟨⟨mk, mr, mc, mp, mt, mq, md, mf, ms⟩, hm⟩ : ∃ m, r[(lo + hi) / 2]? = some m := ⟨_, List.getElem?_eq_getElem (by rw [HN.out]; exact hmid)⟩
      obtain ⟨g, rfl, hg, hit⟩ := (HR.out.below HB.out).it ((lo + hi) / 2) _ hm
      have n0 : wr.cell? ⟨g, (lo + hi) / 2 * 9, none⟩ = some (.string mk) := hit 0 _ rfl
      have n1 : wr.cell? ⟨g, (lo + hi) / 2 * 9 + 1, none⟩ = some (.int .i64 mr) := hit 1 _ rfl
      have n2 : wr.cell? ⟨g, (lo + hi) / 2 * 9 + 2, none⟩ = some (.int .i64 mc) := hit 2 _ rfl
      have n3 : wr.cell? ⟨g, (lo + hi) / 2 * 9 + 3, none⟩ = some (.int .i64 mp) := hit 3 _ rfl
      have n4 : wr.cell? ⟨g, (lo + hi) / 2 * 9 + 4, none⟩ = some (.int .i64 mt) := hit 4 _ rfl
      have n5 : wr.cell? ⟨g, (lo + hi) / 2 * 9 + 5, none⟩ = some (.int .i64 mq) := hit 5 _ rfl
      have n6 : wr.cell? ⟨g, (lo + hi) / 2 * 9 + 6, none⟩ = some (.bool md) := hit 6 _ rfl
      have n7 : wr.cell? ⟨g, (lo + hi) / 2 * 9 + 7, none⟩ = some (.int .i64 mf) := hit 7 _ rfl
      have n8 : wr.cell? ⟨g, (lo + hi) / 2 * 9 + 8, none⟩ = some (.int .i64 ms) := hit 8 _ rfl
      have HM := hide hm
      clear hit hm hg
      by_cases hyx : mc < ca
      · have hcm : Sp.cmpI mc ca < 0 := cmpI_lt.2 hyx
        go_wp2_with (go_at_call 73; refine (CC.out _ _ _ _ _ _ _ _ _ _).mono ?_; rintro e w' ⟨rfl, hb⟩)
        have HB2 := hide (HB.out.trans (hb.mono HB.out.size))
        go_roundw
        case measure => simp [RowKit.intOf] <;> omega
        case rel =>
          exact ⟨(lo + hi) / 2 + 1, hi, by rw [show ((lo : Int) + (hi : Int)) / 2 + 1 = (((lo + hi) / 2 + 1 : Nat) : Int) by omega], rfl, by omega, hin, HB2, hide ⟨fun t m ht hm => by
            rcases Nat.lt_or_ge t ((lo + hi) / 2) with h | h
            · have := mono.out _ _ _ _ h hm HM.out
              simp only at this
              omega
            · obtain rfl : t = (lo + hi) / 2 := by omega
              have e := hm.symm.trans HM.out
              injection e with e
              subst e
              exact hyx, I.out.2⟩⟩
      · have hcm : ¬ Sp.cmpI mc ca < 0 := fun h => hyx (cmpI_lt.1 h)
        go_wp2_with (go_at_call 73; refine (CC.out _ _ _ _ _ _ _ _ _ _).mono ?_; rintro e w' ⟨rfl, hb⟩)
        have HB2 := hide (HB.out.trans (hb.mono HB.out.size))
        go_roundw
        case measure => simp [RowKit.intOf] <;> omega
        case rel =>
          exact ⟨lo, (lo + hi) / 2, rfl, by rw [show ((lo : Int) + (hi : Int)) / 2 = (((lo + hi) / 2 : Nat) : Int) by omega], by omega, by omega, HB2, hide ⟨I.out.1, fun t m ht hm => by
            rcases Nat.lt_or_ge ((lo + hi) / 2) t with h | h
            · have := mono.out _ _ _ _ h HM.out hm
              simp only at this
              omega
            · obtain rfl : t = (lo + hi) / 2 := by omega
              have e := hm.symm.trans HM.out
              injection e with e
              subst e
              show ca ≤ mc
              omega⟩⟩
    · obtain rfl : hi = lo := by omega
      by_cases hn : hi < n
      · have hltI : (hi : Int) < (n : Int) := by omega
        obtain ⟨⟨mk, mr, mc, mp, mt, mq, md, mf, ms⟩, hm⟩ : ∃ m, r[hi]? = some m := ⟨_, List.getElem?_eq_getElem (by rw [HN.out]; exact hn)⟩
        obtain ⟨g, rfl, hg, hit⟩ := (HR.out.below HB.out).it hi _ hm
        have n0 : wr.cell? ⟨g, hi * 9, none⟩ = some (.string mk) := hit 0 _ rfl
        have n1 : wr.cell? ⟨g, hi * 9 + 1, none⟩ = some (.int .i64 mr) := hit 1 _ rfl
        have n2 : wr.cell? ⟨g, hi * 9 + 2, none⟩ = some (.int .i64 mc) := hit 2 _ rfl
        have n3 : wr.cell? ⟨g, hi * 9 + 3, none⟩ = some (.int .i64 mp) := hit 3 _ rfl
        have n4 : wr.cell? ⟨g, hi * 9 + 4, none⟩ = some (.int .i64 mt) := hit 4 _ rfl
        have n5 : wr.cell? ⟨g, hi * 9 + 5, none⟩ = some (.int .i64 mq) := hit 5 _ rfl
        have n6 : wr.cell? ⟨g, hi * 9 + 6, none⟩ = some (.bool md) := hit 6 _ rfl
        have n7 : wr.cell? ⟨g, hi * 9 + 7, none⟩ = some (.int .i64 mf) := hit 7 _ rfl
        have n8 : wr.cell? ⟨g, hi * 9 + 8, none⟩ = some (.int .i64 ms) := hit 8 _ rfl
        have HM := hide hm
        clear hit hm hg
        by_cases hyx : mc = ca
        · have hcm : Sp.cmpI mc ca = 0 := cmpI_eq.2 hyx
          go_wp2_with (go_at_call 73; refine (CC.out _ _ _ _ _ _ _ _ _ _).mono ?_; rintro e w' ⟨rfl, hb⟩)
          exact bodyPost_ret (v := .tuple #[.int .i64 hi, .bool true]) (by simp [results, Try.results72, go_sem, hcm, hyx, cmpI_self]) rfl ⟨hi, true, rfl, ⟨by have := HN.out; omega, fun _ => ⟨_, HM.out, hyx⟩, fun h => by cases h⟩, HB.out.trans (hb.mono HB.out.size)⟩
        · have hcm : ¬ Sp.cmpI mc ca = 0 := fun h => hyx (cmpI_eq.1 h)
          go_wp2_with (go_at_call 73; refine (CC.out _ _ _ _ _ _ _ _ _ _).mono ?_; rintro e w' ⟨rfl, hb⟩)
          have hF : Found r ca hi false := by
            refine ⟨by have := HN.out; omega, fun h => Bool.noConfusion h, fun _ m hmem e => ?_⟩
            obtain ⟨t, ht, rfl⟩ := List.getElem_of_mem hmem
            have htm := List.getElem?_eq_getElem ht
            rcases Nat.lt_trichotomy t hi with h | h | h
            · have := I.out.1 t _ h htm
              omega
            · subst h
              have e2 := htm.symm.trans HM.out
              injection e2 with e2
              rw [e2] at e
              exact hyx e
            · have := mono.out _ _ _ _ h HM.out htm
              have h3 := I.out.2 hi _ (Nat.le_refl _) HM.out
              simp only at this h3
              omega
          exact bodyPost_ret (v := .tuple #[.int .i64 hi, .bool false]) (by simp [results, Try.results72, go_sem, hcm]) rfl ⟨hi, false, rfl, hF, HB.out.trans (hb.mono HB.out.size)⟩
      · have hge : ¬ (hi : Int) < (n : Int) := by omega
        go_wp2_with fail
        have hF : Found r ca hi false := by
          refine ⟨by have := HN.out; omega, fun h => Bool.noConfusion h, fun _ m hmem e => ?_⟩
          obtain ⟨t, ht, rfl⟩ := List.getElem_of_mem hmem
          have := I.out.1 t _ (by have := HN.out; omega) (List.getElem?_eq_getElem ht)
          omega
        exact bodyPost_ret (v := .tuple #[.int .i64 hi, .bool false]) (by simp [results, Try.results72, go_sem]) rfl ⟨hi, .inl ⟨rfl, hF, HB.out⟩⟩
set_option maxRecDepth 100000 in
theorem place_in (w : World) (p : Nat) (L : Nat → Option Addr × Nat) (ls : Nat → List Rc) (h : PSt w p L ls) (k : Nat) (hk : k < 64) (hl : (ls k).length ≤ 100000) (ca : Int) : Calls Try.prog 46 #[.pointer (some ⟨p, 0, none⟩), .int .i64 k, .int .i64 ca] w fun e w' => ∃ i b, e = .returned (.tuple #[.int .i64 (i : Nat), .bool b]) ∧ Found (ls k) ca i b ∧ Below w.heap.size w w' := by
  have H := hide h
  have OC := hide (of_in w p L ls h k hk)
  have BC := hide (bsf_c w (L k).1 (L k).2 _ (ls k) (h.rrow k hk) rfl hl (h.up k hk) ca)
  clear h
  go_enter Try.func46, Try.ntmps46
  go_wp2_with (first | (go_at_call 48; refine OC.out.mono ?_; rintro e w' ⟨rfl, rfl⟩) | (go_at_call 72; refine BC.out.mono ?_; rintro e w' ⟨i, b, rfl, hf, hb⟩))
  exact bodyPost_ret (v := .tuple #[.int .i64 (i : Nat), .bool b]) (by simp [results, Try.results46, go_sem]) rfl ⟨i, b, rfl, hf, hb⟩
set_option maxRecDepth 100000 in
theorem place_out (w : World) (p : Nat) (L : Nat → Option Addr × Nat) (ls : Nat → List Rc) (h : PSt w p L ls) (rk : Int) (hk : rk < 0 ∨ 64 ≤ rk) (ca : Int) : Calls Try.prog 46 #[.pointer (some ⟨p, 0, none⟩), .int .i64 rk, .int .i64 ca] w fun e w' => e = .returned (.tuple #[.int .i64 0, .bool false]) ∧ w = w' := by
  have OC := hide (of_out w p L ls h rk hk)
  clear h
  go_enter Try.func46, Try.ntmps46
  go_wp2_with (first | (go_at_call 48; refine OC.out.mono ?_; rintro e w' ⟨rfl, rfl⟩) | (go_at_call 72; refine (bsf_no _ _ _).mono ?_; rintro e w' ⟨rfl, rfl⟩))
  exact bodyPost_ret (v := .tuple #[.int .i64 0, .bool false]) (by simp [results, Try.results46, go_sem]) rfl ⟨rfl, rfl⟩
end Po
end Go.Proofs.Ytonmojinijpneaa
