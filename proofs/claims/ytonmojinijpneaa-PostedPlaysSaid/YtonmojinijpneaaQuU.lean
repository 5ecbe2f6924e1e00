/- The document's queue: Take; rows that are the same. -/
import Derived.Test.YtonmojinijpneaaRows
import Derived.Test.YtonmojinijpneaaQuT
import Derived.BigQuiet
namespace Go.Proofs.Ytonmojinijpneaa
open Go Go.RowKit Go.Lib
set_option linter.unusedVariables false
set_option linter.unusedSimpArgs false
namespace Qu
set_option maxRecDepth 100000 in
set_option maxHeartbeats 16000000 in
theorem Take_b {w : World} {p : Nat} {A : Option Addr} {l : List Msg} (h : RAt w p A l) (v : Who) (hl : l.length ≤ 1000) :
    Calls Try.prog 69 #[.pointer (some ⟨p, 0, none⟩), .int .i64 v.fr, .int .i64 v.ca] w fun e w' => e = .returned (.int .i64 (takeE l v)) ∧ GoesR w p A (takeL l v) w' := by
  have HQ0 := hide h
  have PC := hide (place_b h.st v hl)
  go_enter Try.func69, Try.ntmps69
  go_wp2_with fail
  refine PC.out.mono ?_
  rintro e w1b ⟨rfl, hw1b⟩
  obtain rfl : w = w1b := hw1b
  clear PC h
  cases hp : plc l v with
  | none =>
    have e1 : plcI l v = -1 := by unfold plcI; rw [hp]
    rw [e1]
    have FE : Hid (takeE l v = 2 ∧ takeL l v = l) := hide ⟨by unfold takeE findL; rw [hp]; rfl, by unfold takeL; rw [hp]⟩
    clear e1 hp
    go_wp2_with fail
    go_ret
    exact ⟨by rw [FE.out.1]; rfl, by rw [FE.out.2]; exact GoesR.same HQ0.out (Below.refl _ _)⟩
  | some i =>
    have e1 : plcI l v = (i : Int) := by unfold plcI; rw [hp]
    rw [e1]
    obtain ⟨⟨mk, mf, mt, mc, mg, mv, mz, mb⟩, hm, hw⟩ := plc_some hp
    have hin := plc_lt hp
    have FF : findL l v = some ⟨mk, mf, mt, mc, mg, mv, mz, mb⟩ := by
      unfold findL
      rw [hp, Option.map_some, List.getD_eq_getElem?_getD, hm]
      rfl
    have FL : takeL l v = l.modify i Msg.took := by unfold takeL; rw [hp]
    obtain ⟨cap, hb, hown⟩ := HQ0.out
    have c0 : w.cell? ⟨p, 0, none⟩ = some (.slice A l.length cap) := hb.cell 0
    obtain ⟨g, rfl, _, _, ⟨cs, hgb⟩, _, _, hc⟩ := own_cell hown (by omega)
    have n7 : w.cell? ⟨g, i * 8 + 7, none⟩ = some (.bool mb) := hc _ _ (msgCs_at l i _ hm 7 (by decide))
    have f7 := hgb.frozen (i * 8 + 7)
    have lt1 : (i : Int) < (l.length : Int) := by omega
    have ge1 : (0 : Int) ≤ (i : Int) := by omega
    cases mb with
    | true =>
      have FE : Hid (takeE l v = 2 ∧ takeL l v = l) := hide ⟨by unfold takeE; rw [FF]; rfl, by rw [FL, modify_same hm rfl]⟩
      clear e1 hp hm hw hin FF FL hb hown hgb hc
      go_wp2_with fail
      go_ret
      exact ⟨by rw [FE.out.1]; rfl, by rw [FE.out.2]; exact GoesR.same HQ0.out (Below.refl _ _)⟩
    | false =>
      have FE : Hid (takeE l v = 0) := hide (by unfold takeE; rw [FF]; rfl)
      have GO : Hid (GoesR w p (some ⟨g, 0, none⟩) (takeL l v) (w.setCell ⟨g, i * 8 + 7, none⟩ (.bool true))) := hide (by
        have hpg : p ≠ g := fun e => by
          rw [← e] at hgb
          have := hgb.symm.trans hb
          injection this with e1
          injection e1 with _ e2
          exact absurd e2 (by decide)
        rw [FL]
        refine ⟨some ⟨g, 0, none⟩, ⟨cap, ?_, ?_⟩, Ch.set_ w _ (by unfold rf; simp), fun b hb => .inl hb⟩
        · rw [modify_len]
          exact (Below.heap_setCell w _ _ p hpg).trans hb
        · rw [modify_len, msgCs_took l i _ hm]
          exact own_set hown _)
      clear e1 hp hm hw hin FF FL hb hown hgb hc
      go_wp2_with fail
      go_ret
      exact ⟨by rw [FE.out]; rfl, GO.out⟩
theorem msg_eq_parts {a b : Msg} : (a = b) ↔ (a.key = b.key ∧ a.fr = b.fr ∧ a.to = b.to ∧ a.ca = b.ca ∧ a.tg = b.tg ∧ a.va = b.va ∧ a.sz = b.sz ∧ a.tk = b.tk) := by
  cases a; cases b; simp
set_option maxRecDepth 100000 in
set_option maxHeartbeats 16000000 in
/-- Two rows of the same messages are the same. -/
theorem Same_b {w : World} (A B : Option Addr) (ca cb n : Nat) (r : List Msg) (hA : MRow w A r) (hB : MRow w B r) (hn : r.length = n) (hl : n ≤ 1000) :
    Calls Try.prog 18 #[.slice A n ca, .slice B n cb] w fun e w' => e = .returned (.bool true) ∧ Below w.heap.size w w' := by
  have HA := hide hA
  have HB := hide hB
  have HN := hide hn
  have HNL := hide hl
  have b0 := hide (Below.refl w.heap.size w)
  clear hA hB hn
  go_enter Try.func18, Try.ntmps18
  go_wp2_with fail
  go_loopw [5] (fun v5 wr => ∃ i : Nat, i ≤ n ∧ v5 = .int .i64 i ∧ Hid (Below w.heap.size w wr)) (fun v5 _ => n - (RowKit.intOf v5).toNat)
  case atStart => exact ⟨0, Nat.zero_le _, rfl, b0⟩
  case round =>
    obtain ⟨i, hi, rfl, HBR⟩ := hrel
    rename World => wr
    by_cases hlt : i < n
    rotate_left
    · have hltI : ¬ (i : Int) < (n : Int) := by omega
      go_wp2_with fail
      go_ret
      exact ⟨rfl, HBR.out⟩
    have hltI : (i : Int) < (n : Int) := by omega
    obtain ⟨⟨mk, mf, mt, mc, mg, mv, mz, mb⟩, hm⟩ : ∃ m, r[i]? = some m := ⟨_, List.getElem?_eq_getElem (by rw [HN.out]; exact hlt)⟩
    obtain ⟨g, rfl, hg, hit⟩ := (HA.out.below HBR.out).it i _ hm
    obtain ⟨g2, rfl, hg2, hit2⟩ := (HB.out.below HBR.out).it i _ hm
    have n0 : wr.cell? ⟨g, i * 8, none⟩ = some (.string mk) := hit 0 _ rfl
    have n1 : wr.cell? ⟨g, i * 8 + 1, none⟩ = some (.int .i64 mf) := hit 1 _ rfl
    have n2 : wr.cell? ⟨g, i * 8 + 2, none⟩ = some (.int .i64 mt) := hit 2 _ rfl
    have n3 : wr.cell? ⟨g, i * 8 + 3, none⟩ = some (.int .i64 mc) := hit 3 _ rfl
    have n4 : wr.cell? ⟨g, i * 8 + 4, none⟩ = some (.int .i64 mg) := hit 4 _ rfl
    have n5 : wr.cell? ⟨g, i * 8 + 5, none⟩ = some (.int .i64 mv) := hit 5 _ rfl
    have n6 : wr.cell? ⟨g, i * 8 + 6, none⟩ = some (.int .i64 mz) := hit 6 _ rfl
    have n7 : wr.cell? ⟨g, i * 8 + 7, none⟩ = some (.bool mb) := hit 7 _ rfl
    have o0 : wr.cell? ⟨g2, i * 8, none⟩ = some (.string mk) := hit2 0 _ rfl
    have o1 : wr.cell? ⟨g2, i * 8 + 1, none⟩ = some (.int .i64 mf) := hit2 1 _ rfl
    have o2 : wr.cell? ⟨g2, i * 8 + 2, none⟩ = some (.int .i64 mt) := hit2 2 _ rfl
    have o3 : wr.cell? ⟨g2, i * 8 + 3, none⟩ = some (.int .i64 mc) := hit2 3 _ rfl
    have o4 : wr.cell? ⟨g2, i * 8 + 4, none⟩ = some (.int .i64 mg) := hit2 4 _ rfl
    have o5 : wr.cell? ⟨g2, i * 8 + 5, none⟩ = some (.int .i64 mv) := hit2 5 _ rfl
    have o6 : wr.cell? ⟨g2, i * 8 + 6, none⟩ = some (.int .i64 mz) := hit2 6 _ rfl
    have o7 : wr.cell? ⟨g2, i * 8 + 7, none⟩ = some (.bool mb) := hit2 7 _ rfl
    have HLT := hide hlt
    have s1 := str_eq mk
    have HB2 := hide (fun k => below_drewN HBR.out k)
    clear hit hit2 hm hlt hg hg2
    go_wp2_with fail
    go_quiet (fail)
    go_wp2_with fail
    go_roundw
    case rel => exact ⟨i + 1, HLT.out, by go_num, hide (HB2.out _)⟩
    case measure => have := HLT.out; simp [RowKit.intOf] <;> omega
/-- A row of numbers that is read. -/
structure NRow (w : World) (A : Option Addr) (r : List Int) : Prop where
  it : ∀ (i : Nat) (x : Int), r[i]? = some x → ∃ g, A = some ⟨g, 0, none⟩ ∧ g < w.heap.size ∧ w.cell? ⟨g, i, none⟩ = some (.int .i64 x)
theorem NRow.below {w w' : World} {A : Option Addr} {r : List Int} (h : NRow w A r) (hb : Below w.heap.size w w') : NRow w' A r := ⟨fun i x hx => by
  obtain ⟨g, hA, hg, hc⟩ := h.it i x hx
  exact ⟨g, hA, Nat.lt_of_lt_of_le hg hb.size, (hb.cell (p := ⟨g, _, none⟩) hg).trans hc⟩⟩
theorem NRow.of_own {w : World} {B n c : Nat} {A : Option Addr} {r : List Int} (h : w.ownsRow B 3 1 (.slice A n c) n (ints r)) (hn : r.length = n) : NRow w A r := ⟨fun i x hx => by
  have hi : i < r.length := (List.getElem?_eq_some_iff.1 hx).1
  obtain ⟨g, hA, _, _, ⟨cs, hb⟩, _, _, hc⟩ := own_cell h (by omega)
  exact ⟨g, hA, hb.lt, hc i _ (by unfold ints; rw [List.getElem?_map, hx]; rfl)⟩⟩
end Qu
end Go.Proofs.Ytonmojinijpneaa
