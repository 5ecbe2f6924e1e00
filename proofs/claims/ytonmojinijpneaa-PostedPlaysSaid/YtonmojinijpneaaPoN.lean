/- May of a queue. -/
import Derived.Test.YtonmojinijpneaaRows
import Derived.Test.YtonmojinijpneaaPoM
import Derived.StillTailTactics
namespace Go.Proofs.Ytonmojinijpneaa
open Go Go.Joins Go.ChangeShapes Go.WideShapes Go.RowKit Go.Deep Go.Lib Go.Proofs.Ytonmojinijpneaa.Qu
set_option linter.unusedVariables false
set_option linter.unusedSimpArgs false
namespace Po
theorem rise_filter : ∀ (rs : List Rc) (i : Nat) (m : Rc), (rs.Pairwise fun a b => a.ca < b.ca) → rs[i]? = some m → rs.filter (fun x => decide (x.ca < m.ca)) = rs.take i
  | x :: t, 0, m, hp, h => by
    have e : x = m := by simpa using h
    subst e
    have h1 := (List.pairwise_cons.1 hp).1
    rw [List.take_zero, List.filter_eq_nil_iff]
    intro a ha
    rcases List.mem_cons.1 ha with rfl | ha
    · simp
    · have := h1 a ha
      simp
      omega
  | x :: t, i + 1, m, hp, h => by
    have h2 : t[i]? = some m := by simpa using h
    have h1 := (List.pairwise_cons.1 hp).1 m (List.mem_of_getElem? h2)
    rw [List.filter_cons_of_pos (by simpa using h1), List.take_succ_cons, rise_filter t i m (List.pairwise_cons.1 hp).2 h2]
theorem rise_find : ∀ (rs : List Rc) (i : Nat) (m : Rc), (rs.Pairwise fun a b => a.ca < b.ca) → rs[i]? = some m → rs.find? (fun x => decide (x.ca = m.ca)) = some m
  | x :: t, 0, m, hp, h => by
    have e : x = m := by simpa using h
    subst e
    simp
  | x :: t, i + 1, m, hp, h => by
    have h2 : t[i]? = some m := by simpa using h
    have h1 := (List.pairwise_cons.1 hp).1 m (List.mem_of_getElem? h2)
    rw [List.find?_cons_of_neg (by simp; omega)]
    exact rise_find t i m (List.pairwise_cons.1 hp).2 h2
/-- Which messages may be a posted receive's. -/
def mayL (l : List Msg) (rs : List Rc) (ca : Int) : List Msg :=
  match rs.find? (fun x => decide (x.ca = ca)) with
  | none => []
  | some r => if r.dn then [] else freeL l r (rs.filter fun x => decide (x.ca < ca))
theorem mayL_none {l : List Msg} {rs : List Rc} {ca : Int} (h : ∀ m ∈ rs, m.ca ≠ ca) : mayL l rs ca = [] := by
  unfold mayL
  rw [List.find?_eq_none.2 (fun x hx => by simpa using h x hx)]
theorem mayL_some {l : List Msg} {rs : List Rc} {i : Nat} {m : Rc} (hp : rs.Pairwise fun a b => a.ca < b.ca) (h : rs[i]? = some m) : mayL l rs m.ca = if m.dn then [] else freeL l m (rs.take i) := by
  unfold mayL
  rw [rise_find rs i m hp h, rise_filter rs i m hp h]
theorem RRow.take {w : World} {A : Option Addr} {r : List Rc} (h : RRow w A r) (n : Nat) : RRow w A (r.take n) := ⟨fun i m hm => h.it i m (by
  rw [List.getElem?_take] at hm
  split at hm
  · exact hm
  · cases hm)⟩
set_option maxRecDepth 100000 in
set_option maxHeartbeats 4000000 in
theorem may_c {w : World} {p q : Nat} {L : Nat → Option Addr × Nat} {ls : Nat → List Rc} {QL' : QL} {l : List Msg} (h : PSt w p L ls) (hlen : ∀ k, k < 64 → (ls k).length ≤ 1000) (hq : QSt w q QL' l) (hl : l.length ≤ 1000) (k : Nat) (hk : k < 64) (ca : Int) :
    Calls Try.prog 23 #[.pointer (some ⟨p, 0, none⟩), .pointer (some ⟨q, 0, none⟩), .int .i64 k, .int .i64 ca] w fun e w' => ∃ A1 c1, e = .returned (.slice A1 (mayL l (ls k) ca).length c1) ∧ w'.ownsRow w.heap.size 33 8 (.slice A1 (mayL l (ls k) ca).length c1) (mayL l (ls k) ca).length (msgCs (mayL l (ls k) ca)) ∧ Below w.heap.size w w' := by
  have PC := hide (place_in w p L ls h k hk (by have := hlen k hk; omega) ca)
  have HQ := hide h
  have QQ := hide hq
  have HL := hide (hlen k hk)
  have hk0 : ¬ (k : Int) < 0 := by omega
  have hk2 : (k : Int) < 64 := by omega
  clear h hlen hq
  go_enter Try.func23, Try.ntmps23
  go_upto_region 2 with (go_at_call 46; refine PC.out.mono ?_; rintro e w1 ⟨i, b, rfl, hf, hb⟩)
  cases b with
  | false =>
    have HB := hide hb
    have FE := hide (mayL_none (l := l) (hf.2.2 rfl))
    clear hf hb PC
    go_wp2_with fail
    go_ret
    rw [FE.out]
    exact ⟨none, 0, rfl, ⟨rfl, .inl ⟨rfl, rfl⟩⟩, HB.out⟩
  | true =>
    obtain ⟨m, hm, hca⟩ := hf.2.1 rfl
    have FE := hide (mayL_some (l := l) (HQ.out.up k hk) hm)
    rw [hca] at FE
    obtain ⟨n, hn⟩ : ∃ n, (ls k).length = n := ⟨_, rfl⟩
    have hin : i < n := by rw [← hn]; exact (List.getElem?_eq_some_iff.1 hm).1
    have P1 := HQ.out.below hb
    obtain ⟨g, hA, hg, hit⟩ := (P1.rrow k hk).it i m hm
    obtain ⟨cap, hcap⟩ : ∃ c, (L k).2 = c := ⟨_, rfl⟩
    have hc : w1.cell? ⟨p, 1 + k, none⟩ = some (.slice (some ⟨g, 0, none⟩) n cap) := by rw [← hA, ← hcap, ← hn]; exact P1.at_ k hk
    have hnc : n ≤ cap := by
      have h := P1.row k hk
      unfold slR at h
      rw [hn, hcap] at h
      obtain ⟨_, _, _, _, _, _, h2, _⟩ := own_cell h (by omega)
      exact h2
    have hi0 : (i : Int) < (n : Int) := by omega
    have hi1 : (i : Int) ≤ (cap : Int) := by omega
    have RR := hide ((P1.rrow k hk).take i)
    rw [hA] at RR
    have RL : Hid (((ls k).take i).length = i) := hide (by rw [List.length_take]; omega)
    have QQ1 := hide (QQ.out.below hb)
    have hnL := HL.out
    rw [hn] at hnL
    have HIN := hide (show i ≤ 1000 by omega)
    obtain ⟨mk, mr, mc, mp, mt, mq, md, mf, ms⟩ := m
    have c6 : w1.cell? ⟨g, i * 9 + 6, none⟩ = some (.bool md) := hit 6 _ rfl
    have HB := hide hb
    clear hf hb PC hm hn P1 hA hcap hnc hca hnL
    cases md with
    | true =>
      clear hit
      go_wp2_with fail
      go_ret
      rw [FE.out]
      exact ⟨none, 0, rfl, ⟨rfl, .inl ⟨rfl, rfl⟩⟩, HB.out⟩
    | false =>
      have n0 : w1.cell? ⟨g, i * 9, none⟩ = some (.string mk) := hit 0 _ rfl
      have n1 : w1.cell? ⟨g, i * 9 + 1, none⟩ = some (.int .i64 mr) := hit 1 _ rfl
      have n2 : w1.cell? ⟨g, i * 9 + 2, none⟩ = some (.int .i64 mc) := hit 2 _ rfl
      have n3 : w1.cell? ⟨g, i * 9 + 3, none⟩ = some (.int .i64 mp) := hit 3 _ rfl
      have n4 : w1.cell? ⟨g, i * 9 + 4, none⟩ = some (.int .i64 mt) := hit 4 _ rfl
      have n5 : w1.cell? ⟨g, i * 9 + 5, none⟩ = some (.int .i64 mq) := hit 5 _ rfl
      have n6 : w1.cell? ⟨g, i * 9 + 6, none⟩ = some (.bool false) := hit 6 _ rfl
      have n7 : w1.cell? ⟨g, i * 9 + 7, none⟩ = some (.int .i64 mf) := hit 7 _ rfl
      have n8 : w1.cell? ⟨g, i * 9 + 8, none⟩ = some (.int .i64 ms) := hit 8 _ rfl
      clear hit
      have FC := hide (free_c (QQ1.out.below (Below.refl w1.heap.size w1).drew) hl (some ⟨g, 0, none⟩) cap i ((ls k).take i) (RR.out.below (Below.refl w1.heap.size w1).drew) RL.out (by have := HIN.out; omega) mk mr mc mp mt mq false mf ms)
      have FE2 : Hid (mayL l (ls k) ca = freeL l ⟨mk, mr, mc, mp, mt, mq, false, mf, ms⟩ ((ls k).take i)) := hide (by rw [FE.out]; rfl)
      clear FE
      go_upto_region 4 with (fail)
      go_still_tail 18, (by kernel_rfl)
      change wpList _ _ _ _ _ w1.drew
      go_wp2_with fail
      refine FC.out.mono ?_
      rintro e w2 ⟨A2, c2, rfl, ho, hb2⟩
      go_wp2_with fail
      go_ret
      have hb3 : Below w.heap.size w w2 := HB.out.drew.trans (hb2.mono HB.out.size)
      rw [FE2.out]
      exact ⟨A2, c2, rfl, own_monoP ho HB.out.size, hb3⟩

end Po
end Go.Proofs.Ytonmojinijpneaa
