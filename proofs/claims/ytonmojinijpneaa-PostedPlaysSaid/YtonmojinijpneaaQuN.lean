/- The document's queue: place, is, Find, First. -/
import Derived.Test.YtonmojinijpneaaRows
import Derived.Test.YtonmojinijpneaaQuJ
namespace Go.Proofs.Ytonmojinijpneaa
open Go Go.RowKit Go.Lib
set_option linter.unusedVariables false
set_option linter.unusedSimpArgs false
namespace Qu
/-- The document's queue p, of the messages l. -/
def RSt (w : World) (p : Nat) (l : List Msg) : Prop := ∃ (A : Option Addr) (cap : Nat), Blk w p 77 #[.slice A l.length cap] ∧ w.ownsRow 0 33 8 (.slice A l.length cap) l.length (msgCs l)
theorem RSt.below {w w' : World} {p : Nat} {l : List Msg} (h : RSt w p l) (hb : Below w.heap.size w w') : RSt w' p l := by
  obtain ⟨A, cap, h1, h2⟩ := h
  exact ⟨A, cap, h1.below hb h1.lt, own_belowR h2 hb⟩
def plcI (l : List Msg) (v : Who) : Int := match plc l v with | some i => (i : Int) | none => -1
theorem plc_scan : ∀ {l : List Msg} {v : Who} {i : Nat} {m : Msg}, (∀ x ∈ l.take i, ¬ x.who = v) → l[i]? = some m → m.who = v → plc l v = some i
  | x :: l, v, 0, m, _, h, hw => by
    have e : x = m := by simpa using h
    rw [plc, if_pos (by rw [e]; exact hw)]
  | x :: l, v, i + 1, m, h1, h, hw => by
    have hx : ¬ x.who = v := h1 x (by simp)
    rw [plc, if_neg hx, plc_scan (i := i) (m := m) (fun y hy => h1 y (by rw [List.take_succ_cons]; exact List.mem_cons_of_mem _ hy)) (by simpa using h) hw]
    rfl
set_option maxRecDepth 100000 in
set_option maxHeartbeats 16000000 in
theorem place_b {w : World} {p : Nat} {l : List Msg} (h : RSt w p l) (v : Who) (hl : l.length ≤ 1000) :
    Calls Try.prog 68 #[.pointer (some ⟨p, 0, none⟩), .int .i64 v.fr, .int .i64 v.ca] w fun e w' => e = .returned (.int .i64 (plcI l v)) ∧ w = w' := by
  obtain ⟨A, cap, hb, hown⟩ := h
  have MR := hide (MRow.of_own hown rfl)
  have c0 : w.cell? ⟨p, 0, none⟩ = some (.slice A l.length cap) := hb.cell 0
  obtain ⟨n, hn⟩ : ∃ n, l.length = n := ⟨_, rfl⟩
  rw [hn] at c0 hl
  have HN := hide hn
  have HNL := hide hl
  clear hb hown hn
  go_enter Try.func68, Try.ntmps68
  go_wp2_with fail
  go_loopw [7] (fun v7 wr => ∃ i : Nat, i ≤ n ∧ v7 = .int .i64 i ∧ w = wr ∧ Hid (∀ x ∈ l.take i, ¬ x.who = v)) (fun v7 _ => n - (RowKit.intOf v7).toNat)
  case atStart => exact ⟨0, Nat.zero_le _, rfl, rfl, hide (fun x hx => absurd hx (by simp))⟩
  case round =>
    obtain ⟨i, hi, rfl, hwr, HNO⟩ := hrel
    rename World => wr
    subst hwr
    by_cases hlt : i < n
    rotate_left
    · have hltI : ¬ (i : Int) < (n : Int) := by omega
      obtain rfl : n = i := by omega
      have FP : Hid (plcI l v = -1) := hide (by
        have h1 := HNO.out
        rw [← HN.out, List.take_length] at h1
        unfold plcI
        rw [plc_none.2 h1])
      go_wp2_with fail
      go_ret
      exact ⟨by rw [FP.out]; rfl, rfl⟩
    have hltI : (i : Int) < (n : Int) := by omega
    obtain ⟨⟨mk, mf, mt, mc, mg, mv, mz, mb⟩, hm⟩ : ∃ m, l[i]? = some m := ⟨_, List.getElem?_eq_getElem (by rw [HN.out]; exact hlt)⟩
    obtain ⟨g, rfl, hg, hit⟩ := MR.out.it i _ hm
    have n1 : w.cell? ⟨g, i * 8 + 1, none⟩ = some (.int .i64 mf) := hit 1 _ rfl
    have n3 : w.cell? ⟨g, i * 8 + 3, none⟩ = some (.int .i64 mc) := hit 3 _ rfl
    have HM := hide hm
    have HLT := hide hlt
    clear hit hm hg hlt
    have hdec : (¬ mf = v.fr) ∨ (mf = v.fr ∧ ¬ mc = v.ca) ∨ (mf = v.fr ∧ mc = v.ca) := by
      by_cases h1 : mf = v.fr
      · by_cases h2 : mc = v.ca
        · exact .inr (.inr ⟨h1, h2⟩)
        · exact .inr (.inl ⟨h1, h2⟩)
      · exact .inl h1
    rcases hdec with h1 | ⟨h1, h2⟩ | ⟨h1, h2⟩
    · have t1 : (mf == v.fr) = false := by simpa using h1
      have HNO1 := hide (show ∀ x ∈ l.take (i + 1), ¬ x.who = v from fun x hx => by
        obtain ⟨hl1, he1⟩ := List.getElem?_eq_some_iff.1 HM.out
        rw [List.take_succ_eq_append_getElem hl1] at hx
        rcases List.mem_append.1 hx with hx | hx
        · exact HNO.out x hx
        · rw [List.mem_singleton.1 hx, he1]
          intro e
          have e1 : mf = v.fr := congrArg Who.fr e
          have e2 : mc = v.ca := congrArg Who.ca e
          exact h1 e1)
      clear h1
      go_wp2_with fail
      go_roundw
      case rel => exact ⟨i + 1, HLT.out, by go_num, by first | trivial | rfl, HNO1⟩
      case measure => have := HLT.out; simp [RowKit.intOf] <;> omega
    · have t1 : (mf == v.fr) = true := by simpa using h1
      have t2 : (mc == v.ca) = false := by simpa using h2
      have HNO1 := hide (show ∀ x ∈ l.take (i + 1), ¬ x.who = v from fun x hx => by
        obtain ⟨hl1, he1⟩ := List.getElem?_eq_some_iff.1 HM.out
        rw [List.take_succ_eq_append_getElem hl1] at hx
        rcases List.mem_append.1 hx with hx | hx
        · exact HNO.out x hx
        · rw [List.mem_singleton.1 hx, he1]
          intro e
          have e1 : mf = v.fr := congrArg Who.fr e
          have e2 : mc = v.ca := congrArg Who.ca e
          exact h2 e2)
      clear h1 h2
      go_wp2_with fail
      go_roundw
      case rel => exact ⟨i + 1, HLT.out, by go_num, by first | trivial | rfl, HNO1⟩
      case measure => have := HLT.out; simp [RowKit.intOf] <;> omega
    · have t1 : (mf == v.fr) = true := by simpa using h1
      have t2 : (mc == v.ca) = true := by simpa using h2
      have FP : Hid (plcI l v = (i : Int)) := hide (by
        unfold plcI
        rw [plc_scan HNO.out HM.out (by show (⟨mf, mc⟩ : Who) = v; rw [h1, h2])])
      clear h1 h2
      go_wp2_with fail
      go_ret
      exact ⟨by rw [FP.out]; rfl, rfl⟩
set_option maxRecDepth 100000 in
set_option maxHeartbeats 8000000 in
theorem is_b (m : Msg) (c : Chan) (w : World) : Calls Try.prog 105 #[.agg #[.string m.key, .int .i64 m.fr, .int .i64 m.to, .int .i64 m.ca, .int .i64 m.tg, .int .i64 m.va, .int .i64 m.sz, .bool m.tk], .string c.key, .int .i64 c.fr, .int .i64 c.to] w fun e w' => e = .returned (.bool (isM m c)) ∧ Below w.heap.size w w' := by
  have HB := hide ((Below.refl w.heap.size w).alloc (Nat.le_refl _) (.cells #[.string m.key, .int .i64 m.fr, .int .i64 m.to, .int .i64 m.ca, .int .i64 m.tg, .int .i64 m.va, .int .i64 m.sz, .bool m.tk] 33))
  obtain ⟨key, fr, tt, ca, tg, va, sz, tk⟩ := m
  obtain ⟨ck, cf, ct⟩ := c
  simp only at HB ⊢
  unfold isM Msg.ch
  simp only
  cases tk with
  | true =>
    go_enter Try.func105, Try.ntmps105
    go_wp2
    go_ret
    exact ⟨rfl, HB.out⟩
  | false =>
    by_cases h1 : key = ck
    rotate_left
    · rw [show decide ((⟨key, fr, tt⟩ : Chan) = ⟨ck, cf, ct⟩) = false from decide_eq_false fun h => h1 (congrArg Chan.key h)]
      have hs := str_ne h1
      go_enter Try.func105, Try.ntmps105
      go_wp2
      go_ret
      exact ⟨rfl, HB.out⟩
    subst h1
    have hs := str_eq key
    by_cases h2 : fr = cf
    rotate_left
    · rw [show decide ((⟨key, fr, tt⟩ : Chan) = ⟨key, cf, ct⟩) = false from decide_eq_false fun h => h2 (congrArg Chan.fr h)]
      go_enter Try.func105, Try.ntmps105
      go_wp2
      go_ret
      exact ⟨rfl, HB.out⟩
    subst h2
    by_cases h3 : tt = ct
    · subst h3
      rw [decide_eq_true rfl]
      go_enter Try.func105, Try.ntmps105
      go_wp2
      go_ret
      exact ⟨rfl, HB.out⟩
    · rw [show decide ((⟨key, fr, tt⟩ : Chan) = ⟨key, fr, ct⟩) = false from decide_eq_false fun h => h3 (congrArg Chan.to h)]
      have t3 : (tt == ct) = false := by simpa using h3
      go_enter Try.func105, Try.ntmps105
      go_wp2
      go_ret
      exact ⟨rfl, HB.out⟩
end Qu
end Go.Proofs.Ytonmojinijpneaa
