/- A copy of a queue: the program. -/
import Derived.Test.YtomladbdebfikaaRows
import Derived.Test.YtomladbdebfikaaQuXi
import Derived.Test.YtomladbdebfikaaRelG
import Derived.Test.YtomladbdebfikaaRelT
import Derived.Test.YtomladbdebfikaaSMapR
namespace Go.Proofs.Ytomladbdebfikaa
open Go Go.RowKit Go.Lib
set_option linter.unusedVariables false
set_option linter.unusedSimpArgs false
namespace Qu
theorem run_len_map {κ : Type} [DecidableEq κ] {kv : κ → Value} {mt kt vt : TypeId} (hm : Try.prog.underlying mt = some (.map kt vt)) {w : World} {r : Nat} {l : List (κ × Value)} (hb : SMap.MB kv w r l) :
    (Builtin.len_ #[mt] 3 #[.map (some r)]).run Try.prog w = .ok (.int .i64 l.length) w := by
  have hg := MapKept.run_getObj_map (P := Try.prog) hb
  simp [Builtin.len_, run_underlying hm, hg, Result.andThen, SMap.ent_len]
  rfl
/-- Three new maps. -/
structure EM (w0 w : World) (a b c : Nat) : Prop where
  la : w0.heap.size ≤ a
  lb : w0.heap.size ≤ b
  lc : w0.heap.size ≤ c
  ab : a ≠ b
  ac : a ≠ c
  bc : b ≠ c
  ha : w.heap[a]? = some (.map #[] 0)
  hb : w.heap[b]? = some (.map #[] 0)
  hc : w.heap[c]? = some (.map #[] 0)
theorem lt_some {w : World} {a : Nat} {o : Obj} (h : w.heap[a]? = some o) : a < w.heap.size := (Array.getElem?_eq_some_iff.1 h).1
theorem EM.below {w0 w w' : World} {a b c : Nat} (h : EM w0 w a b c) (hb : Below w.heap.size w w') : EM w0 w' a b c :=
  ⟨h.la, h.lb, h.lc, h.ab, h.ac, h.bc, (hb.block a (lt_some h.ha)).trans h.ha, (hb.block b (lt_some h.hb)).trans h.hb, (hb.block c (lt_some h.hc)).trans h.hc⟩
/-- What the maps that are made are, while they are made. -/
def S3 (i : Nat) : Prop := i = 5 ∨ i = 11 ∨ i = 17
structure JM (w0 : World) (V : Nat → Option Value) (w : World) : Prop where
  bl : Below w0.heap.size w0 w
  on : ∀ i, S3 i → ∀ v, V i = some v → ∃ a, v = .map (some a) ∧ w0.heap.size ≤ a ∧ w.heap[a]? = some (.map #[] 0)
  ap : ∀ i j, S3 i → S3 j → i ≠ j → ∀ a b, V i = some (.map (some a)) → V j = some (.map (some b)) → a ≠ b
theorem JM.plain {w0 w w' : World} {V : Nat → Option Value} {i : Nat} {v : Value} (h : JM w0 V w) (hb : Below w.heap.size w w') (hi : ¬ S3 i) : JM w0 (setV V i v) w' := by
  have e : ∀ j, S3 j → setV V i v j = V j := fun j hj => if_neg fun (e : j = i) => hi (by rw [← e]; exact hj)
  refine ⟨h.bl.trans (hb.mono h.bl.size), fun j hj u hu => ?_, fun j k hj hk hne a b ha hb' => ?_⟩
  · rw [e j hj] at hu
    obtain ⟨a, h1, h2, h3⟩ := h.on j hj u hu
    exact ⟨a, h1, h2, (hb.block a (lt_some h3)).trans h3⟩
  · rw [e j hj] at ha
    rw [e k hk] at hb'
    exact h.ap j k hj hk hne a b ha hb'
theorem JM.new {w0 w : World} {V : Nat → Option Value} {i : Nat} (h : JM w0 V w) (hi : S3 i) : JM w0 (setV V i (.map (some w.heap.size))) (w.alloc (.map #[] 0)) := by
  have hb := (Below.refl w.heap.size w).alloc (Nat.le_refl _) (.map #[] 0)
  have hs : ∀ j, setV V i (.map (some w.heap.size)) j = if j = i then some (.map (some w.heap.size)) else V j := fun j => rfl
  refine ⟨h.bl.trans (hb.mono h.bl.size), fun j hj u hu => ?_, fun j k hj hk hne a b ha hb' => ?_⟩
  · rw [hs] at hu
    split at hu
    · cases hu
      exact ⟨_, rfl, h.bl.size, heap_alloc_new w _⟩
    · obtain ⟨a, h1, h2, h3⟩ := h.on j hj u hu
      exact ⟨a, h1, h2, (hb.block a (lt_some h3)).trans h3⟩
  · rw [hs] at ha hb'
    split at ha
    · cases ha
      rw [if_neg (by omega)] at hb'
      obtain ⟨a', h1, _, h3⟩ := h.on k hk _ hb'
      cases h1
      have := lt_some h3
      omega
    · split at hb'
      · cases hb'
        obtain ⟨a', h1, _, h3⟩ := h.on j hj _ ha
        cases h1
        have := lt_some h3
        omega
      · exact h.ap j k hj hk hne a b ha hb'
theorem JM.em {w0 w : World} {V : Nat → Option Value} {a b c : Nat} (h : JM w0 V w) (h5 : V 5 = some (.map (some a))) (h11 : V 11 = some (.map (some b))) (h17 : V 17 = some (.map (some c))) : EM w0 w a b c := by
  obtain ⟨a', e1, k1, k2⟩ := h.on 5 (.inl rfl) _ h5
  obtain ⟨b', e2, k3, k4⟩ := h.on 11 (.inr (.inl rfl)) _ h11
  obtain ⟨c', e3, k5, k6⟩ := h.on 17 (.inr (.inr rfl)) _ h17
  cases e1
  cases e2
  cases e3
  exact ⟨k1, k3, k5, h.ap 5 11 (.inl rfl) (.inr (.inl rfl)) (by decide) _ _ h5 h11, h.ap 5 17 (.inl rfl) (.inr (.inr rfl)) (by decide) _ _ h5 h17, h.ap 11 17 (.inr (.inl rfl)) (.inr (.inr rfl)) (by decide) _ _ h11 h17, k2, k4, k6⟩
theorem EM.box {w0 w : World} {a b c : Nat} {l : List Msg} (h : EM w0 w a b c) (hs : w0.heap.size ≤ w.heap.size) : CSt (w.alloc (.cells #[.map (some a), .map (some b), .map (some c)] 61)) w0.heap.size w.heap.size ⟨a, b, c, [], [], []⟩ l := by
  have hb := (Below.refl w.heap.size w).alloc (Nat.le_refl _) (.cells #[.map (some a), .map (some b), .map (some c)] 61)
  have h2 := h.below hb
  have la := lt_some h.ha
  have lb := lt_some h.hb
  have lc := lt_some h.hc
  have n1 := h.ab
  have n2 := h.ac
  have n3 := h.bc
  have g1 := h.la
  have g2 := h.lb
  have g3 := h.lc
  refine ⟨Blk.new w _ _, h2.ha, h2.hb, h2.hc, ?_, fun x hx => ?_, fun p hp => absurd hp List.not_mem_nil, fun p hp => absurd hp List.not_mem_nil⟩
  · show ([w.heap.size, a, b, c] : List Nat).Nodup
    simp
    omega
  · have : x = w.heap.size ∨ x = a ∨ x = b ∨ x = c := by simpa [QL.foot] using hx
    omega
set_option maxRecDepth 100000 in
set_option maxHeartbeats 16000000 in
theorem Copy_c {w : World} {q : Nat} {L : QL} {l : List Msg} (h : QSt w q L l) (hl : l.length ≤ 1000) :
    Calls Try.prog 14 #[.pointer (some ⟨q, 0, none⟩)] w fun e w' => ∃ q2 L2, e = .returned (.pointer (some ⟨q2, 0, none⟩)) ∧ QSt w' q2 L2 l ∧ (∀ b ∈ L2.foot q2, w.heap.size ≤ b) ∧ Below w.heap.size w w' := by
  have HQ0 := hide h
  have MC := hide (made_c h)
  have HB0 := hide (Below.refl w.heap.size w)
  have HCM := hide h.many
  clear h
  go_enter Try.func14, Try.ntmps14
  go_wp2_with fail
  refine MC.out.mono ?_
  rintro e wb ⟨rfl, hwb⟩
  obtain rfl : w = wb := hwb
  clear MC
  go_upto_region 3 with (fail)
  let R : Nat → Value → World → Prop := fun sl u w1 => match sl with
    | 3 => ∃ Q a b c, u = .pointer (some ⟨Q, 0, none⟩) ∧ CSt w1 w.heap.size Q ⟨a, b, c, [], [], []⟩ l
    | 13 => u = .pointer (some ⟨q, 0, none⟩)
    | 14 => u = .pointer (some ⟨q, 0, none⟩)
    | 15 => u = .pointer (some ⟨q, 0, none⟩)
    | 16 => u = .map (some L.cm)
    | 17 => ∃ n : Int, u = .int .i64 n
    | 18 => ∃ a : Nat, u = .map (some a)
    | 19 => u = .pointer (some ⟨q, 0, none⟩)
    | 20 => u = .pointer (some ⟨q, 0, none⟩)
    | 21 => u = .pointer (some ⟨q, 1, none⟩)
    | 22 => u = .map (some L.pm)
    | 23 => ∃ n : Int, u = .int .i64 n
    | 24 => ∃ a : Nat, u = .map (some a)
    | 25 => u = .pointer (some ⟨q, 0, none⟩)
    | 26 => u = .pointer (some ⟨q, 0, none⟩)
    | 27 => u = .pointer (some ⟨q, 2, none⟩)
    | 28 => u = .map (some L.sm)
    | 29 => ∃ n : Int, u = .int .i64 n
    | 30 => ∃ a : Nat, u = .map (some a)
    | 31 => ∃ a b c, u = .agg #[.map (some a), .map (some b), .map (some c)] ∧ EM w w1 a b c
    | 32 => ∃ Q a b c, u = .pointer (some ⟨Q, 0, none⟩) ∧ CSt w1 w.heap.size Q ⟨a, b, c, [], [], []⟩ l
    | _ => True
  refine wp_region_relGW [] R (fun a b => Below a.heap.size a b) (fun V w1 => JM w V w1) (by kernel_rfl) (by kernel_rfl) (by kernel_rfl) (by kernel_rfl) ?mono (fun w => Below.refl _ _) ⟨HB0.out.drew, (fun i _ v hv => by cases hv), (fun i j _ _ _ a b ha _ => by cases ha)⟩ ?gs ?step ?fin
  case mono =>
    intro sl u wx wy h hk
    match sl with
    | 17 =>
      exact h
    | 18 =>
      exact h
    | 23 =>
      exact h
    | 24 =>
      exact h
    | 29 =>
      exact h
    | 30 =>
      exact h
    | 31 =>
      obtain ⟨a, b, c, h1, h2⟩ := h
      exact ⟨a, b, c, h1, h2.below hk⟩
    | 32 =>
      obtain ⟨Q, a, b, c, h1, h2⟩ := h
      exact ⟨Q, a, b, c, h1, h2.below hk⟩
    | 3 =>
      obtain ⟨Q, a, b, c, h1, h2⟩ := h
      exact ⟨Q, a, b, c, h1, h2.below hk⟩
    | 0 | 1 | 2 | 4 | 5 | 6 | 7 | 8 | 9 | 10 | 11 | 12 | 13 | 14 | 15 | 16 | 19 | 20 | 21 | 22 | 25 | 26 | 27 | 28 | _ + 33 => exact h
  case gs =>
    intro p hp u w1 h
    cases hp
  case step =>
    intro j o ho
    match j, ho with
    | 0, ho =>
      cases ho
      intro V aa wx hV hdep hval hj hsm hr
      have e0 : aa.tmps.getD 0 undef = .pointer (some ⟨q, 0, none⟩) := hsm 0 (by decide)
      rw [Array.getD_eq_getD_getElem?] at e0
      unfold Oper.wp
      simp only [execOp, Act.eval, Array.getD_eq_getD_getElem?, e0]
      go_simp
      first | exact ⟨_, rfl, rfl, Below.refl _ _, hj.plain (Below.refl _ _) (by unfold S3; decide)⟩ | exact ⟨_, rfl, Below.refl _ _, hj.plain (Below.refl _ _) (by unfold S3; decide)⟩
    | 1, ho =>
      cases ho
      intro V aa wx hV hdep hval hj hsm hr
      have e13 : aa.tmps.getD 13 undef = .pointer (some ⟨q, 0, none⟩) := hr 13 (by decide) (by apply Array.mem_toList_iff.1; repeat (first | exact List.Mem.head _ | apply List.Mem.tail))
      rw [Array.getD_eq_getD_getElem?] at e13
      unfold Oper.wp
      simp only [execOp, Act.eval, Array.getD_eq_getD_getElem?, e13]
      go_simp
      first | exact ⟨_, rfl, rfl, Below.refl _ _, hj.plain (Below.refl _ _) (by unfold S3; decide)⟩ | exact ⟨_, rfl, Below.refl _ _, hj.plain (Below.refl _ _) (by unfold S3; decide)⟩
    | 2, ho =>
      cases ho
      intro V aa wx hV hdep hval hj hsm hr
      have e14 : aa.tmps.getD 14 undef = .pointer (some ⟨q, 0, none⟩) := hr 14 (by decide) (by apply Array.mem_toList_iff.1; repeat (first | exact List.Mem.head _ | apply List.Mem.tail))
      rw [Array.getD_eq_getD_getElem?] at e14
      unfold Oper.wp
      simp only [execOp, Act.eval, Array.getD_eq_getD_getElem?, e14]
      go_simp
      first | exact ⟨_, rfl, rfl, Below.refl _ _, hj.plain (Below.refl _ _) (by unfold S3; decide)⟩ | exact ⟨_, rfl, Below.refl _ _, hj.plain (Below.refl _ _) (by unfold S3; decide)⟩
    | 3, ho =>
      cases ho
      intro V aa wx hV hdep hval hj hsm hr
      have e15 : aa.tmps.getD 15 undef = .pointer (some ⟨q, 0, none⟩) := hr 15 (by decide) (by apply Array.mem_toList_iff.1; repeat (first | exact List.Mem.head _ | apply List.Mem.tail))
      have hq := HQ0.out.below hj.bl
      have c0 : wx.cell? ⟨q, 0, none⟩ = some (.map (some L.cm)) := hq.blk.cell 0
      rw [Array.getD_eq_getD_getElem?] at e15
      unfold Oper.wp
      simp only [execOp, Act.eval, Array.getD_eq_getD_getElem?, e15]
      go_simp
      first | exact ⟨_, rfl, rfl, Below.refl _ _, hj.plain (Below.refl _ _) (by unfold S3; decide)⟩ | exact ⟨_, rfl, Below.refl _ _, hj.plain (Below.refl _ _) (by unfold S3; decide)⟩
    | 4, ho =>
      cases ho
      intro V aa wx hV hdep hval hj hsm hr
      have e16 : aa.tmps.getD 16 undef = .map (some L.cm) := hr 16 (by decide) (by apply Array.mem_toList_iff.1; repeat (first | exact List.Mem.head _ | apply List.Mem.tail))
      have hln := run_len_map Try.underlying57 (HQ0.out.below hj.bl).mc
      rw [Array.getD_eq_getD_getElem?] at e16
      unfold Oper.wp
      simp only [execOp, Act.eval, Array.getD_eq_getD_getElem?, e16]
      go_simp
      exact ⟨_, rfl, ⟨_, rfl⟩, Below.refl _ _, hj.plain (Below.refl _ _) (by unfold S3; decide)⟩
    | 5, ho =>
      cases ho
      intro V aa wx hV hdep hval hj hsm hr
      have r17 := hr 17 (by decide) (by apply Array.mem_toList_iff.1; repeat (first | exact List.Mem.head _ | apply List.Mem.tail))
      obtain ⟨n, hn⟩ := r17
      have e17 : aa.tmps.getD 17 undef = .int .i64 n := hn
      have hmk := run_makeMap_hint (P := Try.prog) _ _ _ .i64 n Try.underlying57 wx
      rw [Array.getD_eq_getD_getElem?] at e17
      unfold Oper.wp
      simp only [execOp, Act.eval, Array.getD_eq_getD_getElem?, e17]
      go_simp
      exact ⟨_, rfl, ⟨_, rfl⟩, (Below.refl _ _).alloc (Nat.le_refl _) _, hj.new (by unfold S3; decide)⟩
    | 6, ho =>
      cases ho
      intro V aa wx hV hdep hval hj hsm hr
      have e0 : aa.tmps.getD 0 undef = .pointer (some ⟨q, 0, none⟩) := hsm 0 (by decide)
      rw [Array.getD_eq_getD_getElem?] at e0
      unfold Oper.wp
      simp only [execOp, Act.eval, Array.getD_eq_getD_getElem?, e0]
      go_simp
      first | exact ⟨_, rfl, rfl, Below.refl _ _, hj.plain (Below.refl _ _) (by unfold S3; decide)⟩ | exact ⟨_, rfl, Below.refl _ _, hj.plain (Below.refl _ _) (by unfold S3; decide)⟩
    | 7, ho =>
      cases ho
      intro V aa wx hV hdep hval hj hsm hr
      have e19 : aa.tmps.getD 19 undef = .pointer (some ⟨q, 0, none⟩) := hr 19 (by decide) (by apply Array.mem_toList_iff.1; repeat (first | exact List.Mem.head _ | apply List.Mem.tail))
      rw [Array.getD_eq_getD_getElem?] at e19
      unfold Oper.wp
      simp only [execOp, Act.eval, Array.getD_eq_getD_getElem?, e19]
      go_simp
      first | exact ⟨_, rfl, rfl, Below.refl _ _, hj.plain (Below.refl _ _) (by unfold S3; decide)⟩ | exact ⟨_, rfl, Below.refl _ _, hj.plain (Below.refl _ _) (by unfold S3; decide)⟩
    | 8, ho =>
      cases ho
      intro V aa wx hV hdep hval hj hsm hr
      have e20 : aa.tmps.getD 20 undef = .pointer (some ⟨q, 0, none⟩) := hr 20 (by decide) (by apply Array.mem_toList_iff.1; repeat (first | exact List.Mem.head _ | apply List.Mem.tail))
      rw [Array.getD_eq_getD_getElem?] at e20
      unfold Oper.wp
      simp only [execOp, Act.eval, Array.getD_eq_getD_getElem?, e20]
      go_simp
      first | exact ⟨_, rfl, rfl, Below.refl _ _, hj.plain (Below.refl _ _) (by unfold S3; decide)⟩ | exact ⟨_, rfl, Below.refl _ _, hj.plain (Below.refl _ _) (by unfold S3; decide)⟩
    | 9, ho =>
      cases ho
      intro V aa wx hV hdep hval hj hsm hr
      have e21 : aa.tmps.getD 21 undef = .pointer (some ⟨q, 1, none⟩) := hr 21 (by decide) (by apply Array.mem_toList_iff.1; repeat (first | exact List.Mem.head _ | apply List.Mem.tail))
      have hq := HQ0.out.below hj.bl
      have c0 : wx.cell? ⟨q, 1, none⟩ = some (.map (some L.pm)) := hq.blk.cell 1
      rw [Array.getD_eq_getD_getElem?] at e21
      unfold Oper.wp
      simp only [execOp, Act.eval, Array.getD_eq_getD_getElem?, e21]
      go_simp
      first | exact ⟨_, rfl, rfl, Below.refl _ _, hj.plain (Below.refl _ _) (by unfold S3; decide)⟩ | exact ⟨_, rfl, Below.refl _ _, hj.plain (Below.refl _ _) (by unfold S3; decide)⟩
    | 10, ho =>
      cases ho
      intro V aa wx hV hdep hval hj hsm hr
      have e22 : aa.tmps.getD 22 undef = .map (some L.pm) := hr 22 (by decide) (by apply Array.mem_toList_iff.1; repeat (first | exact List.Mem.head _ | apply List.Mem.tail))
      have hln := run_len_map Try.underlying58 (HQ0.out.below hj.bl).mp
      rw [Array.getD_eq_getD_getElem?] at e22
      unfold Oper.wp
      simp only [execOp, Act.eval, Array.getD_eq_getD_getElem?, e22]
      go_simp
      exact ⟨_, rfl, ⟨_, rfl⟩, Below.refl _ _, hj.plain (Below.refl _ _) (by unfold S3; decide)⟩
    | 11, ho =>
      cases ho
      intro V aa wx hV hdep hval hj hsm hr
      have r23 := hr 23 (by decide) (by apply Array.mem_toList_iff.1; repeat (first | exact List.Mem.head _ | apply List.Mem.tail))
      obtain ⟨n, hn⟩ := r23
      have e23 : aa.tmps.getD 23 undef = .int .i64 n := hn
      have hmk := run_makeMap_hint (P := Try.prog) _ _ _ .i64 n Try.underlying58 wx
      rw [Array.getD_eq_getD_getElem?] at e23
      unfold Oper.wp
      simp only [execOp, Act.eval, Array.getD_eq_getD_getElem?, e23]
      go_simp
      exact ⟨_, rfl, ⟨_, rfl⟩, (Below.refl _ _).alloc (Nat.le_refl _) _, hj.new (by unfold S3; decide)⟩
    | 12, ho =>
      cases ho
      intro V aa wx hV hdep hval hj hsm hr
      have e0 : aa.tmps.getD 0 undef = .pointer (some ⟨q, 0, none⟩) := hsm 0 (by decide)
      rw [Array.getD_eq_getD_getElem?] at e0
      unfold Oper.wp
      simp only [execOp, Act.eval, Array.getD_eq_getD_getElem?, e0]
      go_simp
      first | exact ⟨_, rfl, rfl, Below.refl _ _, hj.plain (Below.refl _ _) (by unfold S3; decide)⟩ | exact ⟨_, rfl, Below.refl _ _, hj.plain (Below.refl _ _) (by unfold S3; decide)⟩
    | 13, ho =>
      cases ho
      intro V aa wx hV hdep hval hj hsm hr
      have e25 : aa.tmps.getD 25 undef = .pointer (some ⟨q, 0, none⟩) := hr 25 (by decide) (by apply Array.mem_toList_iff.1; repeat (first | exact List.Mem.head _ | apply List.Mem.tail))
      rw [Array.getD_eq_getD_getElem?] at e25
      unfold Oper.wp
      simp only [execOp, Act.eval, Array.getD_eq_getD_getElem?, e25]
      go_simp
      first | exact ⟨_, rfl, rfl, Below.refl _ _, hj.plain (Below.refl _ _) (by unfold S3; decide)⟩ | exact ⟨_, rfl, Below.refl _ _, hj.plain (Below.refl _ _) (by unfold S3; decide)⟩
    | 14, ho =>
      cases ho
      intro V aa wx hV hdep hval hj hsm hr
      have e26 : aa.tmps.getD 26 undef = .pointer (some ⟨q, 0, none⟩) := hr 26 (by decide) (by apply Array.mem_toList_iff.1; repeat (first | exact List.Mem.head _ | apply List.Mem.tail))
      rw [Array.getD_eq_getD_getElem?] at e26
      unfold Oper.wp
      simp only [execOp, Act.eval, Array.getD_eq_getD_getElem?, e26]
      go_simp
      first | exact ⟨_, rfl, rfl, Below.refl _ _, hj.plain (Below.refl _ _) (by unfold S3; decide)⟩ | exact ⟨_, rfl, Below.refl _ _, hj.plain (Below.refl _ _) (by unfold S3; decide)⟩
    | 15, ho =>
      cases ho
      intro V aa wx hV hdep hval hj hsm hr
      have e27 : aa.tmps.getD 27 undef = .pointer (some ⟨q, 2, none⟩) := hr 27 (by decide) (by apply Array.mem_toList_iff.1; repeat (first | exact List.Mem.head _ | apply List.Mem.tail))
      have hq := HQ0.out.below hj.bl
      have c0 : wx.cell? ⟨q, 2, none⟩ = some (.map (some L.sm)) := hq.blk.cell 2
      rw [Array.getD_eq_getD_getElem?] at e27
      unfold Oper.wp
      simp only [execOp, Act.eval, Array.getD_eq_getD_getElem?, e27]
      go_simp
      first | exact ⟨_, rfl, rfl, Below.refl _ _, hj.plain (Below.refl _ _) (by unfold S3; decide)⟩ | exact ⟨_, rfl, Below.refl _ _, hj.plain (Below.refl _ _) (by unfold S3; decide)⟩
    | 16, ho =>
      cases ho
      intro V aa wx hV hdep hval hj hsm hr
      have e28 : aa.tmps.getD 28 undef = .map (some L.sm) := hr 28 (by decide) (by apply Array.mem_toList_iff.1; repeat (first | exact List.Mem.head _ | apply List.Mem.tail))
      have hln := run_len_map Try.underlying59 (HQ0.out.below hj.bl).ms
      rw [Array.getD_eq_getD_getElem?] at e28
      unfold Oper.wp
      simp only [execOp, Act.eval, Array.getD_eq_getD_getElem?, e28]
      go_simp
      exact ⟨_, rfl, ⟨_, rfl⟩, Below.refl _ _, hj.plain (Below.refl _ _) (by unfold S3; decide)⟩
    | 17, ho =>
      cases ho
      intro V aa wx hV hdep hval hj hsm hr
      have r29 := hr 29 (by decide) (by apply Array.mem_toList_iff.1; repeat (first | exact List.Mem.head _ | apply List.Mem.tail))
      obtain ⟨n, hn⟩ := r29
      have e29 : aa.tmps.getD 29 undef = .int .i64 n := hn
      have hmk := run_makeMap_hint (P := Try.prog) _ _ _ .i64 n Try.underlying59 wx
      rw [Array.getD_eq_getD_getElem?] at e29
      unfold Oper.wp
      simp only [execOp, Act.eval, Array.getD_eq_getD_getElem?, e29]
      go_simp
      exact ⟨_, rfl, ⟨_, rfl⟩, (Below.refl _ _).alloc (Nat.le_refl _) _, hj.new (by unfold S3; decide)⟩
    | 18, ho =>
      cases ho
      intro V aa wx hV hdep hval hj hsm hr
      have r18 := hr 18 (by decide) (by apply Array.mem_toList_iff.1; repeat (first | exact List.Mem.head _ | apply List.Mem.tail))
      have r24 := hr 24 (by decide) (by apply Array.mem_toList_iff.1; repeat (first | exact List.Mem.head _ | apply List.Mem.tail))
      have r30 := hr 30 (by decide) (by apply Array.mem_toList_iff.1; repeat (first | exact List.Mem.head _ | apply List.Mem.tail))
      obtain ⟨a, h18⟩ := r18
      have e18 : aa.tmps.getD 18 undef = .map (some a) := h18
      have v5 : V 5 = some (.map (some a)) := by rw [hval 5 _ 18 rfl rfl (hdep ⟨5, Ground.data⟩ (by simp) (by decide)), h18]
      obtain ⟨b, h24⟩ := r24
      have e24 : aa.tmps.getD 24 undef = .map (some b) := h24
      have v11 : V 11 = some (.map (some b)) := by rw [hval 11 _ 24 rfl rfl (hdep ⟨11, Ground.data⟩ (by simp) (by decide)), h24]
      obtain ⟨c, h30⟩ := r30
      have e30 : aa.tmps.getD 30 undef = .map (some c) := h30
      have v17 : V 17 = some (.map (some c)) := by rw [hval 17 _ 30 rfl rfl (hdep ⟨17, Ground.data⟩ (by simp) (by decide)), h30]
      have hem := hide (hj.em v5 v11 v17)
      clear v5 v11 v17 h18 h24 h30
      rw [Array.getD_eq_getD_getElem?] at e18
      rw [Array.getD_eq_getD_getElem?] at e24
      rw [Array.getD_eq_getD_getElem?] at e30
      unfold Oper.wp
      simp only [execOp, Act.eval, Array.getD_eq_getD_getElem?, e18, e24, e30]
      go_simp
      exact ⟨_, rfl, ⟨a, b, c, rfl, hem.out⟩, Below.refl _ _, hj.plain (Below.refl _ _) (by unfold S3; decide)⟩
    | 19, ho =>
      cases ho
      intro V aa wx hV hdep hval hj hsm hr
      have r31 := hr 31 (by decide) (by apply Array.mem_toList_iff.1; repeat (first | exact List.Mem.head _ | apply List.Mem.tail))
      obtain ⟨a, b, c, h31, hem⟩ := r31
      have e31 : aa.tmps.getD 31 undef = .agg #[.map (some a), .map (some b), .map (some c)] := h31
      have HEM := hide hem
      clear h31 hem
      rw [Array.getD_eq_getD_getElem?] at e31
      unfold Oper.wp
      simp only [execOp, Act.eval, Array.getD_eq_getD_getElem?, e31]
      go_simp
      exact ⟨_, rfl, ⟨_, a, b, c, rfl, HEM.out.box hj.bl.size⟩, (Below.refl _ _).alloc (Nat.le_refl _) _, hj.plain ((Below.refl _ _).alloc (Nat.le_refl _) _) (by unfold S3; decide)⟩
    | 20, ho =>
      cases ho
      intro V aa wx hV hdep hval hj hsm hr
      have r32 := hr 32 (by decide) (by apply Array.mem_toList_iff.1; repeat (first | exact List.Mem.head _ | apply List.Mem.tail))
      obtain ⟨Q, a, b, c, h32, hcs⟩ := r32
      have e32 : aa.tmps.getD 32 undef = .pointer (some ⟨Q, 0, none⟩) := h32
      have HCS := hide hcs
      clear h32 hcs
      rw [Array.getD_eq_getD_getElem?] at e32
      unfold Oper.wp
      simp only [execOp, Act.eval, Array.getD_eq_getD_getElem?, e32]
      go_simp
      exact ⟨_, rfl, ⟨Q, a, b, c, rfl, HCS.out⟩, Below.refl _ _, hj.plain (Below.refl _ _) (by unfold S3; decide)⟩
    | _ + 21, ho => cases ho
  case fin =>
    intro ff V wz hV hj hr
    have e3 : ∃ Q a b c, ff 3 = .pointer (some ⟨Q, 0, none⟩) ∧ CSt wz w.heap.size Q ⟨a, b, c, [], [], []⟩ l := hr 3 (by decide)
    obtain ⟨Q, ma, mb, mc, e3, hcs⟩ := e3
    have HCS := hide hcs
    have HBZ := hide hj.bl
    clear hV hr hj hcs
    simp only [putAll, slotsOf, List.filterMap_cons, List.filterMap_nil, List.foldl_cons, List.foldl_nil, Act.put, e3]
    simp only [List.setIfInBounds_toArray, List.set_cons_succ, List.set_cons_zero]
    have HQz0 := hide (HQ0.out.below HBZ.out)
    have c0 : wz.cell? ⟨q, 0, none⟩ = some (.map (some L.cm)) := HQz0.out.blk.cell 0
    obtain ⟨hrg, hit⟩ := SMap.run_range (P := Try.prog) Try.underlying57 _ L.cm wz HQz0.out.mc
    have hmb := (HQ0.out).mc
    have hcm : L.cm < w.heap.size := hmb.lt
    have bi := (Below.refl wz.heap.size wz).alloc (Nat.le_refl _) (.mapIter (some L.cm) (L.cl.map fun p => (p.1, rowV (rowsOf l p.1) p.2)).length #[] (L.cl.map fun p => (p.1, rowV (rowsOf l p.1) p.2)).length)
    have si : (wz.alloc (.mapIter (some L.cm) (L.cl.map fun p => (p.1, rowV (rowsOf l p.1) p.2)).length #[] (L.cl.map fun p => (p.1, rowV (rowsOf l p.1) p.2)).length)).heap.size = wz.heap.size + 1 := by simp
    have hkn : ((L.cl.map fun p => (p.1, rowV (rowsOf l p.1) p.2)).map (·.1)).Nodup := by rw [List.map_map]; exact HQ0.out.kc
    obtain ⟨W1, hW1⟩ : ∃ z, wz.alloc (.mapIter (some L.cm) (L.cl.map fun p => (p.1, rowV (rowsOf l p.1) p.2)).length #[] (L.cl.map fun p => (p.1, rowV (rowsOf l p.1) p.2)).length) = z := ⟨_, rfl⟩
    rw [hW1] at hrg hit bi si
    obtain ⟨cl0, hcl⟩ : ∃ z, (L.cl.map fun p => (p.1, rowV (rowsOf l p.1) p.2)) = z := ⟨_, rfl⟩
    rw [hcl] at hit hmb hkn
    obtain ⟨r0, hr⟩ : ∃ z, wz.heap.size = z := ⟨_, rfl⟩
    have HRW0 := hide (show w.heap.size ≤ r0 from by have := HBZ.out.size; omega)
    rw [hr] at hrg hit si
    have HIT0 := hide hit
    have HMB0 := hide hmb
    have HCM0 := hide hcm
    have HCL0 := hide hcl
    have HKN0 := hide hkn
    have HBI0 := hide (HBZ.out.trans (bi.mono HBZ.out.size))
    have HCI0 := hide (HCS.out.below bi)
    have HRF0 := hide (show ¬ r0 ∈ QL.foot _ Q from fun hm => by have := HCS.out.lt _ hm; omega)
    have RNG0 := hide (SMap.Rng.start cl0)
    clear hit hmb hcm bi si hkn hW1 hcl hr
    go_wp2_with fail
    clear hrg c0
    go_loopw [4, 5] (fun _ _ wr => ∃ (seen : Array Nat) (ks : List (Chan × Value)) (ds : List (Chan × CRow)), Hid (ks.map (·.1) = ds.map (·.1)) ∧ Hid (∀ p ∈ ds, ∃ x, (p.1, x) ∈ L.cl ∧ p.2.fi = x.fi) ∧ Hid (SMap.It wr r0 L.cm cl0.length seen) ∧ Hid (SMap.Rng cl0 seen ks) ∧ Hid (CSt wr w.heap.size Q ⟨ma, mb, mc, ds, [], []⟩ l) ∧ Hid (¬ r0 ∈ (⟨ma, mb, mc, ds, [], []⟩ : QL).foot Q) ∧ Hid (Below w.heap.size w wr)) (fun _ _ wr => (leftOf (SMap.ent chV 0 cl0).toArray (wr.iterSeen r0)).size)
    case atStart => exact ⟨#[], [], [], hide rfl, hide (fun p hp => absurd hp List.not_mem_nil), HIT0, RNG0, HCI0, HRF0, HBI0⟩
    case round =>
      obtain ⟨seen, ks, ds, HKD, HFI, HITr, HRG, HCSr, HRFr, HBR⟩ := hrel
      rename World => wr
      have mbr := HMB0.out.below HBR.out HCM0.out
      rcases SMap.run_next (P := Try.prog) wr r0 L.cm HITr.out mbr HRG.out (by have := HCM0.out; have := HRW0.out; omega) with ⟨hperm, hnx⟩ | ⟨⟨⟨ck, cf, ct⟩, pv⟩, e0, wn, hp, he0, hrg1, hnx, hen, hit1, hgr1, hsz1⟩
      · have HPM0 := hide (show (ds.map (·.1)).Perm (L.cl.map (·.1)) by
          have := hperm.map (·.1)
          rw [HKD.out, ← HCL0.out, List.map_map] at this
          exact this)
        have HCS := HCSr
        have HB1 := HBR
        have HFI1 := HFI
        clear hperm mbr HIT0 HITr HRG HRFr HKD HRF0 HCI0 HBI0 RNG0
        have HQz1 := hide (HQ0.out.below HBR.out)
        have c1 : wr.cell? ⟨q, 1, none⟩ = some (.map (some L.pm)) := HQz1.out.blk.cell 1
        obtain ⟨hrg, hit⟩ := SMap.run_range (P := Try.prog) Try.underlying58 _ L.pm wr HQz1.out.mp
        have hmb := (HQ0.out).mp
        have hcm : L.pm < w.heap.size := hmb.lt
        have bi := (Below.refl wr.heap.size wr).alloc (Nat.le_refl _) (.mapIter (some L.pm) (L.pl.map fun p => (p.1, plV p.2)).length #[] (L.pl.map fun p => (p.1, plV p.2)).length)
        have si : (wr.alloc (.mapIter (some L.pm) (L.pl.map fun p => (p.1, plV p.2)).length #[] (L.pl.map fun p => (p.1, plV p.2)).length)).heap.size = wr.heap.size + 1 := by simp
        have hkn : ((L.pl.map fun p => (p.1, plV p.2)).map (·.1)).Nodup := by rw [List.map_map]; exact HQ0.out.kp
        obtain ⟨W1, hW1⟩ : ∃ z, wr.alloc (.mapIter (some L.pm) (L.pl.map fun p => (p.1, plV p.2)).length #[] (L.pl.map fun p => (p.1, plV p.2)).length) = z := ⟨_, rfl⟩
        rw [hW1] at hrg hit bi si
        obtain ⟨cl1, hcl⟩ : ∃ z, (L.pl.map fun p => (p.1, plV p.2)) = z := ⟨_, rfl⟩
        rw [hcl] at hit hmb hkn
        obtain ⟨r1, hr⟩ : ∃ z, wr.heap.size = z := ⟨_, rfl⟩
        have HRW1 := hide (show w.heap.size ≤ r1 from by have := HBR.out.size; omega)
        rw [hr] at hrg hit si
        have HIT1 := hide hit
        have HMB1 := hide hmb
        have HCM1 := hide hcm
        have HCL1 := hide hcl
        have HKN1 := hide hkn
        have HBI1 := hide (HBR.out.trans (bi.mono HBR.out.size))
        have HCI1 := hide (HCS.out.below bi)
        have HRF1 := hide (show ¬ r1 ∈ QL.foot _ Q from fun hm => by have := HCS.out.lt _ hm; omega)
        have RNG1 := hide (SMap.Rng.start cl1)
        clear hit hmb hcm bi si hkn hW1 hcl hr
        go_wp2_with fail
        clear hrg c1
        clear hnx
        go_loopw [6, 7] (fun _ _ wr => ∃ (seen : Array Nat) (ks : List (Who × Value)) (ps : List (Who × PRow)), Hid (ks = ps.map fun p => (p.1, plV p.2)) ∧ Hid (SMap.It wr r1 L.pm cl1.length seen) ∧ Hid (SMap.Rng cl1 seen ks) ∧ Hid (CSt wr w.heap.size Q ⟨ma, mb, mc, ds, ps, []⟩ l) ∧ Hid (¬ r1 ∈ (⟨ma, mb, mc, ds, [], []⟩ : QL).foot Q) ∧ Hid (Below w.heap.size w wr)) (fun _ _ wr => (leftOf (SMap.ent whV 0 cl1).toArray (wr.iterSeen r1)).size)
        case atStart => exact ⟨#[], [], [], hide rfl, HIT1, RNG1, HCI1, HRF1, HBI1⟩
        case round =>
          obtain ⟨seen, ks, ps, HKD, HITr, HRG, HCSr, HRFr, HBR⟩ := hrel
          rename World => wr
          have mbr := HMB1.out.below HBR.out HCM1.out
          rcases SMap.run_next (P := Try.prog) wr r1 L.pm HITr.out mbr HRG.out (by have := HCM1.out; have := HRW1.out; omega) with ⟨hperm, hnx⟩ | ⟨⟨⟨vf, vc⟩, pv⟩, e0, wn, hp, he0, hrg1, hnx, hen, hit1, hgr1, hsz1⟩
          · have HPM1 := hide (show (ps.map fun p => (p.1, plV p.2)).Perm (L.pl.map fun p => (p.1, plV p.2)) by
              rw [HKD.out, ← HCL1.out] at hperm
              exact hperm)
            have HCS := HCSr
            have HB2 := HBR
            clear hperm mbr HIT1 HITr HRG HRFr HKD HRF1 HCI1 HBI1 RNG1
            have HQz2 := hide (HQ0.out.below HBR.out)
            have c2 : wr.cell? ⟨q, 2, none⟩ = some (.map (some L.sm)) := HQz2.out.blk.cell 2
            obtain ⟨hrg, hit⟩ := SMap.run_range (P := Try.prog) Try.underlying59 _ L.sm wr HQz2.out.ms
            have hmb := (HQ0.out).ms
            have hcm : L.sm < w.heap.size := hmb.lt
            have bi := (Below.refl wr.heap.size wr).alloc (Nat.le_refl _) (.mapIter (some L.sm) (L.sl.map fun p => (p.1, slV (fromsOf l p.1) p.2)).length #[] (L.sl.map fun p => (p.1, slV (fromsOf l p.1) p.2)).length)
            have si : (wr.alloc (.mapIter (some L.sm) (L.sl.map fun p => (p.1, slV (fromsOf l p.1) p.2)).length #[] (L.sl.map fun p => (p.1, slV (fromsOf l p.1) p.2)).length)).heap.size = wr.heap.size + 1 := by simp
            have hkn : ((L.sl.map fun p => (p.1, slV (fromsOf l p.1) p.2)).map (·.1)).Nodup := by rw [List.map_map]; exact HQ0.out.ks
            obtain ⟨W1, hW1⟩ : ∃ z, wr.alloc (.mapIter (some L.sm) (L.sl.map fun p => (p.1, slV (fromsOf l p.1) p.2)).length #[] (L.sl.map fun p => (p.1, slV (fromsOf l p.1) p.2)).length) = z := ⟨_, rfl⟩
            rw [hW1] at hrg hit bi si
            obtain ⟨cl2, hcl⟩ : ∃ z, (L.sl.map fun p => (p.1, slV (fromsOf l p.1) p.2)) = z := ⟨_, rfl⟩
            rw [hcl] at hit hmb hkn
            obtain ⟨r2, hr⟩ : ∃ z, wr.heap.size = z := ⟨_, rfl⟩
            have HRW2 := hide (show w.heap.size ≤ r2 from by have := HBR.out.size; omega)
            rw [hr] at hrg hit si
            have HIT2 := hide hit
            have HMB2 := hide hmb
            have HCM2 := hide hcm
            have HCL2 := hide hcl
            have HKN2 := hide hkn
            have HBI2 := hide (HBR.out.trans (bi.mono HBR.out.size))
            have HCI2 := hide (HCS.out.below bi)
            have HRF2 := hide (show ¬ r2 ∈ QL.foot _ Q from fun hm => by have := HCS.out.lt _ hm; omega)
            have RNG2 := hide (SMap.Rng.start cl2)
            clear hit hmb hcm bi si hkn hW1 hcl hr
            go_wp2_with fail
            clear hrg c2
            clear hnx
            go_loopw [8, 9] (fun _ _ wr => ∃ (seen : Array Nat) (ks : List (Inb × Value)) (ss : List (Inb × SRow)), Hid (ks.map (·.1) = ss.map (·.1)) ∧ Hid (SMap.It wr r2 L.sm cl2.length seen) ∧ Hid (SMap.Rng cl2 seen ks) ∧ Hid (CSt wr w.heap.size Q ⟨ma, mb, mc, ds, ps, ss⟩ l) ∧ Hid (¬ r2 ∈ (⟨ma, mb, mc, ds, ps, ss⟩ : QL).foot Q) ∧ Hid (Below w.heap.size w wr)) (fun _ _ wr => (leftOf (SMap.ent inV 0 cl2).toArray (wr.iterSeen r2)).size)
            case atStart => exact ⟨#[], [], [], hide rfl, HIT2, RNG2, HCI2, HRF2, HBI2⟩
            case round =>
              obtain ⟨seen, ks, ss, HKD, HITr, HRG, HCSr, HRFr, HBR⟩ := hrel
              rename World => wr
              have mbr := HMB2.out.below HBR.out HCM2.out
              rcases SMap.run_next (P := Try.prog) wr r2 L.sm HITr.out mbr HRG.out (by have := HCM2.out; have := HRW2.out; omega) with ⟨hperm, hnx⟩ | ⟨⟨⟨ik, it⟩, pv⟩, e0, wn, hp, he0, hrg1, hnx, hen, hit1, hgr1, hsz1⟩
              · have hps : (ss.map (·.1)).Perm (L.sl.map (·.1)) := by
                  have := hperm.map (·.1)
                  rw [HKD.out, ← HCL2.out, List.map_map] at this
                  exact this
                have HWH := hide (CSt.whole HQ0.out HCSr.out HPM0.out HFI1.out HPM1.out hps)
                have HLO := hide HCSr.out.lo
                clear hps hperm mbr
                go_wp2_with fail
                go_ret
                exact ⟨Q, _, rfl, HWH.out, HLO.out, HBR.out⟩
              · have hkey := hrg1.keys HKN2.out
                rw [List.map_append, HKD.out, List.nodup_append] at hkey
                have hnew : ¬ (⟨ik, it⟩ : Inb) ∈ ss.map (·.1) := fun hm => hkey.2.2 _ hm _ (by simp) rfl
                have hp2 := hp
                rw [← HCL2.out] at hp2
                obtain ⟨⟨z1, ⟨g, cap⟩⟩, hz, hze⟩ := List.mem_map.1 hp2
                have hz1 : z1 = ⟨ik, it⟩ := congrArg Prod.fst hze
                subst hz1
                have hpv : pv = .slice (some ⟨g, 0, none⟩) (fromsOf l ⟨ik, it⟩).length cap := (congrArg Prod.snd hze).symm
                subst hpv
                obtain ⟨n, hn⟩ : ∃ z, (fromsOf l ⟨ik, it⟩).length = z := ⟨_, rfl⟩
                have hnl : n ≤ 1000 := by have := froms_len l ⟨ik, it⟩; omega
                have hnp : 0 < n := by rw [← hn]; exact List.length_pos_iff.2 ((HQ0.out.sin _).1 (List.mem_map_of_mem (f := fun p : Inb × SRow => p.1) hz))
                have HNN := hide (And.intro hn (And.intro hnl hnp))
                have HMR := hide (show ∀ wx, QSt wx q L l → NRow wx (some ⟨g, 0, none⟩) (fromsOf l ⟨ik, it⟩) ∧ g < wx.heap.size from fun wx hq => ⟨NRow.of_own (hq.srow _ hz) rfl, hq.lt _ (foot_srow hz)⟩)
                rw [hn] at hnx hen
                unfold inV at hnx hen
                have hbn := HBR.out.grown hgr1 (by have := HBR.out.size; omega) (fun k hk => by injection hk with e; have := HRW2.out; omega)
                have hcn := HCSr.out.grown hgr1 HRFr.out
                have b1 := (Below.refl wn.heap.size wn).alloc (Nat.le_refl _) (.cells #[.string ik, .int .i64 it] 73)
                have k1 := Blk.new wn 73 #[.string ik, .int .i64 it]
                obtain ⟨ws, hws⟩ : ∃ z, wn.alloc (.cells #[.string ik, .int .i64 it] 73) = z := ⟨_, rfl⟩
                obtain ⟨Y4, hY4⟩ : ∃ z, wn.heap.size = z := ⟨_, rfl⟩
                rw [hws] at b1 k1
                have K4 := hide k1
                rw [hY4] at K4
                have HBS := hide (hbn.trans (b1.mono hbn.size))
                have HCSs := hide (hcn.below b1)
                have HITs := hide (show SMap.It ws r2 L.sm cl2.length (seen.push e0.born) from (b1.block r2 (by have := (Array.getElem?_eq_some_iff.1 hit1).1; exact this)).trans hit1)
                have HRSs := hide (show r2 < ws.heap.size from by have := (Array.getElem?_eq_some_iff.1 HITs.out).1; exact this)
                have HE := hide (And.intro hws hY4)
                have HRG1 : Hid (SMap.Rng cl2 (seen.push e0.born) (ks ++ [(⟨ik, it⟩, .slice (some ⟨g, 0, none⟩) n cap)])) := hide (by rw [hn] at hrg1; exact hrg1)
                have HE0 := hide he0
                have HNEW := hide hnew
                clear hkey hp2 hze hn hnl hnp hz hrg1 he0 hit1 hgr1 hsz1 hbn hcn b1 k1 hws hY4 hp mbr hnew
                go_upto_region 15 with (fail)
                rw [HE.out.1, HE.out.2]
                clear HE hnx hen
                let R : Nat → Value → World → Prop := fun sl u w1 => match sl with
                  | 80 => u = .pointer (some ⟨Q, 0, none⟩)
                  | 81 => u = .pointer (some ⟨Q, 0, none⟩)
                  | 82 => u = .pointer (some ⟨Q, 2, none⟩)
                  | 83 => u = .map (some mc)
                  | 84 => u = .agg #[.string ik, .int .i64 it]
                  | 85 => u = .slice (some ⟨g, 0, none⟩) n cap
                  | 86 => ∃ (g1 c1 : Nat), u = .slice (some ⟨g1, 0, none⟩) n c1 ∧ ws.heap.size ≤ g1 ∧ w1.ownsRow 0 3 1 (.slice (some ⟨g1, 0, none⟩) n c1) n (ints (fromsOf l ⟨ik, it⟩))
                  | _ => True
                refine wp_region_relT 7 R (by kernel_rfl) (by kernel_rfl) (by kernel_rfl) (by kernel_rfl) ?mono15 ?step15 ?fin15
                case mono15 =>
                  intro t u w1 w2 h hb
                  match t with
                  | 86 =>
                    obtain ⟨g1, c1, h1, h2, h3⟩ := h
                    exact ⟨g1, c1, h1, h2, own_belowR h3 hb⟩
                  | 0 | 1 | 2 | 3 | 4 | 5 | 6 | 7 | 8 | 9 | 10 | 11 | 12 | 13 | 14 | 15 | 16 | 17 | 18 | 19 | 20 | 21 | 22 | 23 | 24 | 25 | 26 | 27 | 28 | 29 | 30 | 31 | 32 | 33 | 34 | 35 | 36 | 37 | 38 | 39 | 40 | 41 | 42 | 43 | 44 | 45 | 46 | 47 | 48 | 49 | 50 | 51 | 52 | 53 | 54 | 55 | 56 | 57 | 58 | 59 | 60 | 61 | 62 | 63 | 64 | 65 | 66 | 67 | 68 | 69 | 70 | 71 | 72 | 73 | 74 | 75 | 76 | 77 | 78 | 79 | 80 | 81 | 82 | 83 | 84 | 85 | _ + 87 => exact h
                case step15 =>
                  intro o ho
                  simp only [List.take_succ_cons, List.take_zero, List.mem_cons, List.not_mem_nil, or_false] at ho
                  rcases ho with rfl | rfl | rfl | rfl | rfl | rfl | rfl
                  · intro a w1 hb hs hr
                    have e3 : a.tmps.getD 3 undef = .pointer (some ⟨Q, 0, none⟩) := hs 3 (by decide)
                    rw [Array.getD_eq_getD_getElem?] at e3
                    unfold Oper.wp
                    simp only [execOp, Act.eval, Array.getD_eq_getD_getElem?, e3]
                    go_simp
                    exact ⟨_, rfl, rfl, Below.refl _ _⟩
                  · intro a w1 hb hs hr
                    have e80 : a.tmps.getD 80 undef = .pointer (some ⟨Q, 0, none⟩) := hr 80 (by decide) (by apply Array.mem_toList_iff.1; repeat (first | exact List.Mem.head _ | apply List.Mem.tail))
                    rw [Array.getD_eq_getD_getElem?] at e80
                    unfold Oper.wp
                    simp only [execOp, Act.eval, Array.getD_eq_getD_getElem?, e80]
                    go_simp
                    exact ⟨_, rfl, rfl, Below.refl _ _⟩
                  · intro a w1 hb hs hr
                    have e81 : a.tmps.getD 81 undef = .pointer (some ⟨Q, 0, none⟩) := hr 81 (by decide) (by apply Array.mem_toList_iff.1; repeat (first | exact List.Mem.head _ | apply List.Mem.tail))
                    rw [Array.getD_eq_getD_getElem?] at e81
                    unfold Oper.wp
                    simp only [execOp, Act.eval, Array.getD_eq_getD_getElem?, e81]
                    go_simp
                    exact ⟨_, rfl, rfl, Below.refl _ _⟩
                  · intro a w1 hb hs hr
                    have e82 : a.tmps.getD 82 undef = .pointer (some ⟨Q, 2, none⟩) := hr 82 (by decide) (by apply Array.mem_toList_iff.1; repeat (first | exact List.Mem.head _ | apply List.Mem.tail))
                    have x0 : w1.cell? ⟨Q, 2, none⟩ = some (.map (some mc)) := (HCSs.out.below hb).blk.cell 2
                    rw [Array.getD_eq_getD_getElem?] at e82
                    unfold Oper.wp
                    simp only [execOp, Act.eval, Array.getD_eq_getD_getElem?, e82]
                    go_simp
                    exact ⟨_, rfl, rfl, Below.refl _ _⟩
                  · intro a w1 hb hs hr
                    have e8 : a.tmps.getD 8 undef = .pointer (some ⟨Y4, 0, none⟩) := hs 8 (by decide)
                    have kk := K4.out.below hb K4.out.lt
                    have x0 : w1.cell? ⟨Y4, 0, none⟩ = some (.string ik) := kk.cell 0
                    have x1 : w1.cell? ⟨Y4, 1, none⟩ = some (.int .i64 it) := kk.cell 1
                    clear kk
                    rw [Array.getD_eq_getD_getElem?] at e8
                    unfold Oper.wp
                    simp only [execOp, Act.eval, Array.getD_eq_getD_getElem?, e8]
                    go_simp
                    exact ⟨_, rfl, rfl, Below.refl _ _⟩
                  · intro a w1 hb hs hr
                    have e9 : a.tmps.getD 9 undef = .slice (some ⟨g, 0, none⟩) n cap := hs 9 (by decide)
                    rw [Array.getD_eq_getD_getElem?] at e9
                    unfold Oper.wp
                    simp only [execOp, Act.eval, Array.getD_eq_getD_getElem?, e9]
                    go_simp
                    exact ⟨_, rfl, rfl, Below.refl _ _⟩
                  · intro a w1 hb hs hr
                    have e85 : a.tmps.getD 85 undef = .slice (some ⟨g, 0, none⟩) n cap := hr 85 (by decide) (by apply Array.mem_toList_iff.1; repeat (first | exact List.Mem.head _ | apply List.Mem.tail))
                    obtain ⟨hmr, hgl⟩ := HMR.out w1 (HQ0.out.below (HBS.out.trans (hb.mono HBS.out.size)))
                    have CL := hide (clone_n g cap n (fromsOf l ⟨ik, it⟩) hmr hgl HNN.out.1 HNN.out.2.1)
                    clear hmr hgl
                    rw [Array.getD_eq_getD_getElem?] at e85
                    unfold Oper.wp
                    simp only [execOp, Act.eval, Array.getD_eq_getD_getElem?, e85]
                    go_simp
                    refine CL.out.mono ?_
                    rintro e w9 ⟨A3, c3, rfl, h3, hb3⟩
                    obtain ⟨g1, rfl, hg1, _⟩ := own_cell h3 HNN.out.2.2
                    exact ⟨_, rfl, ⟨g1, c3, rfl, Nat.le_trans hb.size hg1, own_more h3 (Nat.zero_le _)⟩, hb3⟩
                case fin15 =>
                  intro ff w5 hb hr
                  have f83 : ff 83 = .map (some mc) := hr 83 (by decide)
                  have f84 : ff 84 = .agg #[.string ik, .int .i64 it] := hr 84 (by decide)
                  have f86 : ∃ (g1 c1 : Nat), ff 86 = .slice (some ⟨g1, 0, none⟩) n c1 ∧ ws.heap.size ≤ g1 ∧ w5.ownsRow 0 3 1 (.slice (some ⟨g1, 0, none⟩) n c1) n (ints (fromsOf l ⟨ik, it⟩)) := hr 86 (by decide)
                  obtain ⟨g1, c1, f86, hg1, hown1⟩ := f86
                  have hc5 := HCSs.out.below hb
                  have hb5 := HBS.out.trans (hb.mono HBS.out.size)
                  have hit5 : SMap.It w5 r2 L.sm cl2.length (seen.push e0.born) := (hb.block r2 HRSs.out).trans HITs.out
                  have hge1 : w.heap.size ≤ g1 := by have := HBS.out.size; omega
                  have hgn : ¬ g1 ∈ (⟨ma, mb, mc, ds, ps, ss⟩ : QL).foot Q := fun hm => by have := HCSs.out.lt _ hm; omega
                  have hown1' : w5.ownsRow 0 3 1 (.slice (some ⟨g1, 0, none⟩) (fromsOf l ⟨ik, it⟩).length c1) (fromsOf l ⟨ik, it⟩).length (ints (fromsOf l ⟨ik, it⟩)) := by rw [HNN.out.1]; exact hown1
                  obtain ⟨w6, hmu, hw6, hmb6, hgr6⟩ := SMap.run_mapUpdate (P := Try.prog) keyInb Try.underlying59 ⟨ik, it⟩ (slV (fromsOf l ⟨ik, it⟩) ⟨g1, c1⟩) mc _ w5 hc5.ms
                  have hc6 := hc5.addS (x := ⟨g1, c1⟩) hge1 hgn HNEW.out hown1' hmb6 hgr6
                  unfold slV inV at hmu
                  rw [HNN.out.1] at hmu
                  have hmlo : w.heap.size ≤ mc := hc5.lo _ foot_s
                  have hrm : mc ≠ r2 := fun e => HRFr.out (by rw [← e]; exact foot_s)
                  have HC6 := hide hc6
                  have HB6 := hide (hb5.grown hgr6 (by have := hb5.size; omega) (fun k hk => by injection hk with e; omega))
                  have HIT6 := hide (show SMap.It w6 r2 L.sm cl2.length (seen.push e0.born) from (hgr6.block r2 (by have := (Array.getElem?_eq_some_iff.1 hit5).1; exact this) (fun e => hrm (by injection e with e; exact e.symm))).trans hit5)
                  have HRF6 := hide (show ¬ r2 ∈ (⟨ma, mb, mc, ds, ps, ss ++ [(⟨ik, it⟩, ⟨g1, c1⟩)]⟩ : QL).foot Q from fun hm => by
                    have h1 : r2 ∈ (⟨ma, mb, mc, ds, ps, ss⟩ : QL).foot Q ∨ r2 = g1 := by
                      unfold QL.foot at hm ⊢
                      simp only [List.mem_cons, List.mem_append, List.map_append, List.map_cons, List.map_nil, List.not_mem_nil, or_false] at hm ⊢
                      rcases hm with h | h | h | h | h | h | h <;> simp [h]
                    rcases h1 with h1 | h1
                    · exact HRFr.out h1
                    · have := HRSs.out; omega)
                  have HKD6 := hide (show (ks ++ [((⟨ik, it⟩ : Inb), Value.slice (some ⟨g, 0, none⟩) n cap)]).map (·.1) = (ss ++ [((⟨ik, it⟩ : Inb), (⟨g1, c1⟩ : SRow))]).map (·.1) by rw [List.map_append, List.map_append, HKD.out]; rfl)
                  clear hw6 hb hr hc5 hb5 hit5 hge1 hgn hown1 hown1' hmb6 hgr6 hc6 hmlo hrm hg1
                  simp only [putAll, slotsOf, List.take_succ_cons, List.take_zero, List.drop_succ_cons, List.drop_zero, List.filterMap_cons, List.filterMap_nil, List.foldl_cons, List.foldl_nil, Act.put, f83, f84, f86]
                  simp only [List.setIfInBounds_toArray, List.set_cons_succ, List.set_cons_zero]
                  clear f83 f84 f86
                  go_wp2_with fail
                  go_roundw
                  case rel => exact ⟨seen.push e0.born, ks ++ [(⟨ik, it⟩, .slice (some ⟨g, 0, none⟩) n cap)], ss ++ [(⟨ik, it⟩, ⟨g1, c1⟩)], HKD6, HIT6, HRG1, HC6, HRF6, HB6⟩
                  case measure =>
                    rw [SMap.iter_seen HIT6.out, SMap.iter_seen HITr.out]
                    exact left_shrinks _ seen e0 HE0.out
          · have hkey := hrg1.keys HKN1.out
            rw [List.map_append, HKD.out, List.map_map, List.nodup_append] at hkey
            have hnew : ¬ (⟨vf, vc⟩ : Who) ∈ ps.map (·.1) := fun hm => hkey.2.2 _ hm _ (by simp) rfl
            have hp2 := hp
            rw [← HCL1.out] at hp2
            obtain ⟨⟨z1, ⟨⟨pk, pf, pt⟩, pa⟩⟩, hz, hze⟩ := List.mem_map.1 hp2
            have hz1 : z1 = ⟨vf, vc⟩ := congrArg Prod.fst hze
            subst hz1
            have hpv : pv = .agg #[.string pk, .int .i64 pf, .int .i64 pt, .int .i64 pa] := (congrArg Prod.snd hze).symm
            subst hpv
            unfold whV at hnx hen
            have hbn := HBR.out.grown hgr1 (by have := HBR.out.size; omega) (fun k hk => by injection hk with e; have := HRW1.out; omega)
            have hcn := HCSr.out.grown hgr1 HRFr.out
            have b1 := (Below.refl wn.heap.size wn).alloc (Nat.le_refl _) (.cells #[.int .i64 vf, .int .i64 vc] 68)
            have k1 := Blk.new wn 68 #[.int .i64 vf, .int .i64 vc]
            obtain ⟨wp, hwp⟩ : ∃ z, wn.alloc (.cells #[.int .i64 vf, .int .i64 vc] 68) = z := ⟨_, rfl⟩
            obtain ⟨Y4, hY4⟩ : ∃ z, wn.heap.size = z := ⟨_, rfl⟩
            have hsp : wp.heap.size = Y4 + 1 := by rw [← hwp]; simp [hY4]
            rw [hwp] at b1 k1
            have b2 := (Below.refl wp.heap.size wp).alloc (Nat.le_refl _) (.cells #[.string pk, .int .i64 pf, .int .i64 pt, .int .i64 pa] 65)
            have k2 := Blk.new wp 65 #[.string pk, .int .i64 pf, .int .i64 pt, .int .i64 pa]
            obtain ⟨ws, hws⟩ : ∃ z, wp.alloc (.cells #[.string pk, .int .i64 pf, .int .i64 pt, .int .i64 pa] 65) = z := ⟨_, rfl⟩
            rw [hws] at b2 k2
            have bb := b1.trans (b2.mono b1.size)
            have K4 := hide (k1.below b2 k1.lt)
            rw [hY4] at K4
            have K5 := hide k2
            rw [hsp] at K5
            have HBS := hide (hbn.trans (bb.mono hbn.size))
            have HCSs := hide (hcn.below bb)
            have HITs := hide (show SMap.It ws r1 L.pm cl1.length (seen.push e0.born) from (bb.block r1 (by have := (Array.getElem?_eq_some_iff.1 hit1).1; exact this)).trans hit1)
            have HRSs := hide (show r1 < ws.heap.size from by have := (Array.getElem?_eq_some_iff.1 HITs.out).1; exact this)
            have HE := hide (And.intro hwp (And.intro hws (And.intro hY4 hsp)))
            have HRG1 := hide hrg1
            have HE0 := hide he0
            have HNEW := hide hnew
            clear hkey hp2 hze hz hrg1 he0 hit1 hgr1 hsz1 hbn hcn b1 k1 b2 k2 bb hwp hws hY4 hsp hp mbr hnew
            go_upto_region 11 with (fail)
            rw [HE.out.1, HE.out.2.1, HE.out.2.2.1]
            clear HE hnx hen
            let R : Nat → Value → World → Prop := fun sl u w1 => match sl with
              | 64 => u = .pointer (some ⟨Q, 0, none⟩)
              | 65 => u = .pointer (some ⟨Q, 0, none⟩)
              | 66 => u = .pointer (some ⟨Q, 1, none⟩)
              | 67 => u = .map (some mb)
              | 68 => u = .agg #[.int .i64 vf, .int .i64 vc]
              | 69 => u = .agg #[.string pk, .int .i64 pf, .int .i64 pt, .int .i64 pa]
              | _ => True
            refine wp_region_relT 6 R (by kernel_rfl) (by kernel_rfl) (by kernel_rfl) (by kernel_rfl) ?mono11 ?step11 ?fin11
            case mono11 =>
              intro t u w1 w2 h hb
              match t with
              | 0 | 1 | 2 | 3 | 4 | 5 | 6 | 7 | 8 | 9 | 10 | 11 | 12 | 13 | 14 | 15 | 16 | 17 | 18 | 19 | 20 | 21 | 22 | 23 | 24 | 25 | 26 | 27 | 28 | 29 | 30 | 31 | 32 | 33 | 34 | 35 | 36 | 37 | 38 | 39 | 40 | 41 | 42 | 43 | 44 | 45 | 46 | 47 | 48 | 49 | 50 | 51 | 52 | 53 | 54 | 55 | 56 | 57 | 58 | 59 | 60 | 61 | 62 | 63 | 64 | 65 | 66 | 67 | 68 | 69 | _ + 70 => exact h
            case step11 =>
              intro o ho
              simp only [List.take_succ_cons, List.take_zero, List.mem_cons, List.not_mem_nil, or_false] at ho
              rcases ho with rfl | rfl | rfl | rfl | rfl | rfl
              · intro a w1 hb hs hr
                have e3 : a.tmps.getD 3 undef = .pointer (some ⟨Q, 0, none⟩) := hs 3 (by decide)
                rw [Array.getD_eq_getD_getElem?] at e3
                unfold Oper.wp
                simp only [execOp, Act.eval, Array.getD_eq_getD_getElem?, e3]
                go_simp
                exact ⟨_, rfl, rfl, Below.refl _ _⟩
              · intro a w1 hb hs hr
                have e64 : a.tmps.getD 64 undef = .pointer (some ⟨Q, 0, none⟩) := hr 64 (by decide) (by apply Array.mem_toList_iff.1; repeat (first | exact List.Mem.head _ | apply List.Mem.tail))
                rw [Array.getD_eq_getD_getElem?] at e64
                unfold Oper.wp
                simp only [execOp, Act.eval, Array.getD_eq_getD_getElem?, e64]
                go_simp
                exact ⟨_, rfl, rfl, Below.refl _ _⟩
              · intro a w1 hb hs hr
                have e65 : a.tmps.getD 65 undef = .pointer (some ⟨Q, 0, none⟩) := hr 65 (by decide) (by apply Array.mem_toList_iff.1; repeat (first | exact List.Mem.head _ | apply List.Mem.tail))
                rw [Array.getD_eq_getD_getElem?] at e65
                unfold Oper.wp
                simp only [execOp, Act.eval, Array.getD_eq_getD_getElem?, e65]
                go_simp
                exact ⟨_, rfl, rfl, Below.refl _ _⟩
              · intro a w1 hb hs hr
                have e66 : a.tmps.getD 66 undef = .pointer (some ⟨Q, 1, none⟩) := hr 66 (by decide) (by apply Array.mem_toList_iff.1; repeat (first | exact List.Mem.head _ | apply List.Mem.tail))
                have x0 : w1.cell? ⟨Q, 1, none⟩ = some (.map (some mb)) := (HCSs.out.below hb).blk.cell 1
                rw [Array.getD_eq_getD_getElem?] at e66
                unfold Oper.wp
                simp only [execOp, Act.eval, Array.getD_eq_getD_getElem?, e66]
                go_simp
                exact ⟨_, rfl, rfl, Below.refl _ _⟩
              · intro a w1 hb hs hr
                have e6 : a.tmps.getD 6 undef = .pointer (some ⟨Y4, 0, none⟩) := hs 6 (by decide)
                have kk := K4.out.below hb K4.out.lt
                have x0 : w1.cell? ⟨Y4, 0, none⟩ = some (.int .i64 vf) := kk.cell 0
                have x1 : w1.cell? ⟨Y4, 1, none⟩ = some (.int .i64 vc) := kk.cell 1
                clear kk
                rw [Array.getD_eq_getD_getElem?] at e6
                unfold Oper.wp
                simp only [execOp, Act.eval, Array.getD_eq_getD_getElem?, e6]
                go_simp
                exact ⟨_, rfl, rfl, Below.refl _ _⟩
              · intro a w1 hb hs hr
                have e7 : a.tmps.getD 7 undef = .pointer (some ⟨Y4 + 1, 0, none⟩) := hs 7 (by decide)
                have kk := K5.out.below hb K5.out.lt
                have x0 : w1.cell? ⟨Y4 + 1, 0, none⟩ = some (.string pk) := kk.cell 0
                have x1 : w1.cell? ⟨Y4 + 1, 1, none⟩ = some (.int .i64 pf) := kk.cell 1
                have x2 : w1.cell? ⟨Y4 + 1, 2, none⟩ = some (.int .i64 pt) := kk.cell 2
                have x3 : w1.cell? ⟨Y4 + 1, 3, none⟩ = some (.int .i64 pa) := kk.cell 3
                clear kk
                rw [Array.getD_eq_getD_getElem?] at e7
                unfold Oper.wp
                simp only [execOp, Act.eval, Array.getD_eq_getD_getElem?, e7]
                go_simp
                exact ⟨_, rfl, rfl, Below.refl _ _⟩
            case fin11 =>
              intro ff w5 hb hr
              have f67 : ff 67 = .map (some mb) := hr 67 (by decide)
              have f68 : ff 68 = .agg #[.int .i64 vf, .int .i64 vc] := hr 68 (by decide)
              have f69 : ff 69 = .agg #[.string pk, .int .i64 pf, .int .i64 pt, .int .i64 pa] := hr 69 (by decide)
              have hc5 := HCSs.out.below hb
              have hb5 := HBS.out.trans (hb.mono HBS.out.size)
              have hit5 : SMap.It w5 r1 L.pm cl1.length (seen.push e0.born) := (hb.block r1 HRSs.out).trans HITs.out
              obtain ⟨w6, hmu, hw6, hmb6, hgr6⟩ := SMap.run_mapUpdate (P := Try.prog) keyWho Try.underlying58 ⟨vf, vc⟩ (plV ⟨⟨pk, pf, pt⟩, pa⟩) mb _ w5 hc5.mp
              have hc6 := hc5.addP (x := ⟨⟨pk, pf, pt⟩, pa⟩) HNEW.out hmb6 hgr6
              unfold plV whV at hmu
              have hmlo : w.heap.size ≤ mb := hc5.lo _ foot_p
              have hrm : mb ≠ r1 := fun e => HRFr.out (by rw [← e]; unfold QL.foot; simp)
              have HC6 := hide hc6
              have HB6 := hide (hb5.grown hgr6 (by have := hb5.size; omega) (fun k hk => by injection hk with e; omega))
              have HIT6 := hide (show SMap.It w6 r1 L.pm cl1.length (seen.push e0.born) from (hgr6.block r1 (by have := (Array.getElem?_eq_some_iff.1 hit5).1; exact this) (fun e => hrm (by injection e with e; exact e.symm))).trans hit5)
              have HKD6 := hide (show ks ++ [((⟨vf, vc⟩ : Who), Value.agg #[.string pk, .int .i64 pf, .int .i64 pt, .int .i64 pa])] = (ps ++ [((⟨vf, vc⟩ : Who), (⟨⟨pk, pf, pt⟩, pa⟩ : PRow))]).map fun p => (p.1, plV p.2) by rw [List.map_append, ← HKD.out]; rfl)
              clear hw6 hb hr hc5 hb5 hit5 hmb6 hgr6 hc6 hmlo hrm
              simp only [putAll, slotsOf, List.take_succ_cons, List.take_zero, List.drop_succ_cons, List.drop_zero, List.filterMap_cons, List.filterMap_nil, List.foldl_cons, List.foldl_nil, Act.put, f67, f68, f69]
              simp only [List.setIfInBounds_toArray, List.set_cons_succ, List.set_cons_zero]
              clear f67 f68 f69
              go_wp2_with fail
              go_roundw
              case rel => exact ⟨seen.push e0.born, ks ++ [(⟨vf, vc⟩, .agg #[.string pk, .int .i64 pf, .int .i64 pt, .int .i64 pa])], ps ++ [(⟨vf, vc⟩, ⟨⟨pk, pf, pt⟩, pa⟩)], HKD6, HIT6, HRG1, HC6, HRFr, HB6⟩
              case measure =>
                rw [SMap.iter_seen HIT6.out, SMap.iter_seen HITr.out]
                exact left_shrinks _ seen e0 HE0.out
      · have hkey := hrg1.keys HKN0.out
        rw [List.map_append, HKD.out, List.nodup_append] at hkey
        have hnew : ¬ (⟨ck, cf, ct⟩ : Chan) ∈ ds.map (·.1) := fun hm => hkey.2.2 _ hm _ (by simp) rfl
        have hp2 := hp
        rw [← HCL0.out] at hp2
        obtain ⟨⟨z1, ⟨g, cap, fi⟩⟩, hz, hze⟩ := List.mem_map.1 hp2
        have hz1 : z1 = ⟨ck, cf, ct⟩ := congrArg Prod.fst hze
        subst hz1
        have hpv : pv = .agg #[.slice (some ⟨g, 0, none⟩) (rowsOf l ⟨ck, cf, ct⟩).length cap, .int .i64 fi] := (congrArg Prod.snd hze).symm
        subst hpv
        obtain ⟨n, hn⟩ : ∃ z, (rowsOf l ⟨ck, cf, ct⟩).length = z := ⟨_, rfl⟩
        have hnl : n ≤ 1000 := by have := rowsOf_len l ⟨ck, cf, ct⟩; omega
        have hnp : 0 < n := by rw [← hn]; exact List.length_pos_iff.2 ((HQ0.out.cin _).1 (List.mem_map_of_mem (f := fun p : Chan × CRow => p.1) hz))
        have HNN := hide (And.intro hn (And.intro hnl hnp))
        have HMR := hide (show ∀ wx, QSt wx q L l → MRow wx (some ⟨g, 0, none⟩) (rowsOf l ⟨ck, cf, ct⟩) ∧ g < wx.heap.size from fun wx hq => ⟨MRow.of_own (hq.crow _ hz) rfl, hq.lt _ (foot_row hz)⟩)
        have HZ := hide hz
        rw [hn] at hnx hen
        unfold chV at hnx hen
        have hbn := HBR.out.grown hgr1 (by have := HBR.out.size; omega) (fun k hk => by injection hk with e; have := HRW0.out; omega)
        have hcn := HCSr.out.grown hgr1 HRFr.out
        have b1 := (Below.refl wn.heap.size wn).alloc (Nat.le_refl _) (.cells #[.string ck, .int .i64 cf, .int .i64 ct] 63)
        have k1 := Blk.new wn 63 #[.string ck, .int .i64 cf, .int .i64 ct]
        obtain ⟨wp, hwp⟩ : ∃ z, wn.alloc (.cells #[.string ck, .int .i64 cf, .int .i64 ct] 63) = z := ⟨_, rfl⟩
        obtain ⟨Y4, hY4⟩ : ∃ z, wn.heap.size = z := ⟨_, rfl⟩
        have hsp : wp.heap.size = Y4 + 1 := by rw [← hwp]; simp [hY4]
        rw [hwp] at b1 k1
        have b2 := (Below.refl wp.heap.size wp).alloc (Nat.le_refl _) (.cells #[.slice (some ⟨g, 0, none⟩) n cap, .int .i64 fi] 71)
        have k2 := Blk.new wp 71 #[.slice (some ⟨g, 0, none⟩) n cap, .int .i64 fi]
        obtain ⟨ws, hws⟩ : ∃ z, wp.alloc (.cells #[.slice (some ⟨g, 0, none⟩) n cap, .int .i64 fi] 71) = z := ⟨_, rfl⟩
        rw [hws] at b2 k2
        have bb := b1.trans (b2.mono b1.size)
        have K4 := hide (k1.below b2 k1.lt)
        rw [hY4] at K4
        have K5 := hide k2
        rw [hsp] at K5
        have HBS := hide (hbn.trans (bb.mono hbn.size))
        have HCSs := hide (hcn.below bb)
        have HITs := hide (show SMap.It ws r0 L.cm cl0.length (seen.push e0.born) from (bb.block r0 (by have := (Array.getElem?_eq_some_iff.1 hit1).1; exact this)).trans hit1)
        have HRSs := hide (show r0 < ws.heap.size from by have := (Array.getElem?_eq_some_iff.1 HITs.out).1; exact this)
        have HE := hide (And.intro hwp (And.intro hws (And.intro hY4 hsp)))
        have HRG1 : Hid (SMap.Rng cl0 (seen.push e0.born) (ks ++ [(⟨ck, cf, ct⟩, .agg #[.slice (some ⟨g, 0, none⟩) n cap, .int .i64 fi])])) := hide (by rw [hn] at hrg1; exact hrg1)
        have HE0 := hide he0
        have HNEW := hide hnew
        clear hkey hp2 hze hn hnl hnp hz hrg1 he0 hit1 hgr1 hsz1 hbn hcn b1 k1 b2 k2 bb hwp hws hY4 hsp hp mbr hnew
        go_upto_region 7 with (fail)
        rw [HE.out.1, HE.out.2.1, HE.out.2.2.1]
        clear HE hnx hen
        let R : Nat → Value → World → Prop := fun sl u w1 => match sl with
          | 43 => u = .pointer (some ⟨Q, 0, none⟩)
          | 44 => u = .pointer (some ⟨Q, 0, none⟩)
          | 45 => u = .pointer (some ⟨Q, 0, none⟩)
          | 46 => u = .map (some ma)
          | 47 => u = .agg #[.string ck, .int .i64 cf, .int .i64 ct]
          | 48 => u = .pointer (some ⟨Y4 + 1, 0, none⟩)
          | 49 => u = .slice (some ⟨g, 0, none⟩) n cap
          | 50 => ∃ (g1 c1 : Nat), u = .slice (some ⟨g1, 0, none⟩) n c1 ∧ ws.heap.size ≤ g1 ∧ w1.ownsRow 0 31 8 (.slice (some ⟨g1, 0, none⟩) n c1) n (msgCs (rowsOf l ⟨ck, cf, ct⟩))
          | 51 => u = .pointer (some ⟨Y4 + 1, 1, none⟩)
          | 52 => u = .int .i64 fi
          | 53 => ∃ (g1 c1 : Nat), u = .agg #[.slice (some ⟨g1, 0, none⟩) n c1, .int .i64 fi] ∧ ws.heap.size ≤ g1 ∧ w1.ownsRow 0 31 8 (.slice (some ⟨g1, 0, none⟩) n c1) n (msgCs (rowsOf l ⟨ck, cf, ct⟩))
          | _ => True
        refine wp_region_relT 11 R (by kernel_rfl) (by kernel_rfl) (by kernel_rfl) (by kernel_rfl) ?mono7 ?step7 ?fin7
        case mono7 =>
          intro t u w1 w2 h hb
          match t with
          | 50 =>
            obtain ⟨g1, c1, h1, h2, h3⟩ := h
            exact ⟨g1, c1, h1, h2, own_belowR h3 hb⟩
          | 53 =>
            obtain ⟨g1, c1, h1, h2, h3⟩ := h
            exact ⟨g1, c1, h1, h2, own_belowR h3 hb⟩
          | 0 | 1 | 2 | 3 | 4 | 5 | 6 | 7 | 8 | 9 | 10 | 11 | 12 | 13 | 14 | 15 | 16 | 17 | 18 | 19 | 20 | 21 | 22 | 23 | 24 | 25 | 26 | 27 | 28 | 29 | 30 | 31 | 32 | 33 | 34 | 35 | 36 | 37 | 38 | 39 | 40 | 41 | 42 | 43 | 44 | 45 | 46 | 47 | 48 | 49 | 51 | 52 | _ + 54 => exact h
        case step7 =>
          intro o ho
          simp only [List.take_succ_cons, List.take_zero, List.mem_cons, List.not_mem_nil, or_false] at ho
          rcases ho with rfl | rfl | rfl | rfl | rfl | rfl | rfl | rfl | rfl | rfl | rfl
          · intro a w1 hb hs hr
            have e3 : a.tmps.getD 3 undef = .pointer (some ⟨Q, 0, none⟩) := hs 3 (by decide)
            rw [Array.getD_eq_getD_getElem?] at e3
            unfold Oper.wp
            simp only [execOp, Act.eval, Array.getD_eq_getD_getElem?, e3]
            go_simp
            exact ⟨_, rfl, rfl, Below.refl _ _⟩
          · intro a w1 hb hs hr
            have e43 : a.tmps.getD 43 undef = .pointer (some ⟨Q, 0, none⟩) := hr 43 (by decide) (by apply Array.mem_toList_iff.1; repeat (first | exact List.Mem.head _ | apply List.Mem.tail))
            rw [Array.getD_eq_getD_getElem?] at e43
            unfold Oper.wp
            simp only [execOp, Act.eval, Array.getD_eq_getD_getElem?, e43]
            go_simp
            exact ⟨_, rfl, rfl, Below.refl _ _⟩
          · intro a w1 hb hs hr
            have e44 : a.tmps.getD 44 undef = .pointer (some ⟨Q, 0, none⟩) := hr 44 (by decide) (by apply Array.mem_toList_iff.1; repeat (first | exact List.Mem.head _ | apply List.Mem.tail))
            rw [Array.getD_eq_getD_getElem?] at e44
            unfold Oper.wp
            simp only [execOp, Act.eval, Array.getD_eq_getD_getElem?, e44]
            go_simp
            exact ⟨_, rfl, rfl, Below.refl _ _⟩
          · intro a w1 hb hs hr
            have e45 : a.tmps.getD 45 undef = .pointer (some ⟨Q, 0, none⟩) := hr 45 (by decide) (by apply Array.mem_toList_iff.1; repeat (first | exact List.Mem.head _ | apply List.Mem.tail))
            have x0 : w1.cell? ⟨Q, 0, none⟩ = some (.map (some ma)) := (HCSs.out.below hb).blk.cell 0
            rw [Array.getD_eq_getD_getElem?] at e45
            unfold Oper.wp
            simp only [execOp, Act.eval, Array.getD_eq_getD_getElem?, e45]
            go_simp
            exact ⟨_, rfl, rfl, Below.refl _ _⟩
          · intro a w1 hb hs hr
            have e4 : a.tmps.getD 4 undef = .pointer (some ⟨Y4, 0, none⟩) := hs 4 (by decide)
            have kk := K4.out.below hb K4.out.lt
            have x0 : w1.cell? ⟨Y4, 0, none⟩ = some (.string ck) := kk.cell 0
            have x1 : w1.cell? ⟨Y4, 1, none⟩ = some (.int .i64 cf) := kk.cell 1
            have x2 : w1.cell? ⟨Y4, 2, none⟩ = some (.int .i64 ct) := kk.cell 2
            clear kk
            rw [Array.getD_eq_getD_getElem?] at e4
            unfold Oper.wp
            simp only [execOp, Act.eval, Array.getD_eq_getD_getElem?, e4]
            go_simp
            exact ⟨_, rfl, rfl, Below.refl _ _⟩
          · intro a w1 hb hs hr
            have e5 : a.tmps.getD 5 undef = .pointer (some ⟨Y4 + 1, 0, none⟩) := hs 5 (by decide)
            rw [Array.getD_eq_getD_getElem?] at e5
            unfold Oper.wp
            simp only [execOp, Act.eval, Array.getD_eq_getD_getElem?, e5]
            go_simp
            exact ⟨_, rfl, rfl, Below.refl _ _⟩
          · intro a w1 hb hs hr
            have e48 : a.tmps.getD 48 undef = .pointer (some ⟨Y4 + 1, 0, none⟩) := hr 48 (by decide) (by apply Array.mem_toList_iff.1; repeat (first | exact List.Mem.head _ | apply List.Mem.tail))
            have kk := K5.out.below hb K5.out.lt
            have x0 : w1.cell? ⟨Y4 + 1, 0, none⟩ = some (.slice (some ⟨g, 0, none⟩) n cap) := kk.cell 0
            clear kk
            rw [Array.getD_eq_getD_getElem?] at e48
            unfold Oper.wp
            simp only [execOp, Act.eval, Array.getD_eq_getD_getElem?, e48]
            go_simp
            exact ⟨_, rfl, rfl, Below.refl _ _⟩
          · intro a w1 hb hs hr
            have e49 : a.tmps.getD 49 undef = .slice (some ⟨g, 0, none⟩) n cap := hr 49 (by decide) (by apply Array.mem_toList_iff.1; repeat (first | exact List.Mem.head _ | apply List.Mem.tail))
            obtain ⟨hmr, hgl⟩ := HMR.out w1 (HQ0.out.below (HBS.out.trans (hb.mono HBS.out.size)))
            have CL := hide (clone_m g cap n (rowsOf l ⟨ck, cf, ct⟩) hmr hgl HNN.out.1 HNN.out.2.1)
            clear hmr hgl
            rw [Array.getD_eq_getD_getElem?] at e49
            unfold Oper.wp
            simp only [execOp, Act.eval, Array.getD_eq_getD_getElem?, e49]
            go_simp
            refine CL.out.mono ?_
            rintro e w9 ⟨A3, c3, rfl, h3, hb3⟩
            obtain ⟨g1, rfl, hg1, _⟩ := own_cell h3 HNN.out.2.2
            exact ⟨_, rfl, ⟨g1, c3, rfl, Nat.le_trans hb.size hg1, own_more h3 (Nat.zero_le _)⟩, hb3⟩
          · intro a w1 hb hs hr
            have e5 : a.tmps.getD 5 undef = .pointer (some ⟨Y4 + 1, 0, none⟩) := hs 5 (by decide)
            rw [Array.getD_eq_getD_getElem?] at e5
            unfold Oper.wp
            simp only [execOp, Act.eval, Array.getD_eq_getD_getElem?, e5]
            go_simp
            exact ⟨_, rfl, rfl, Below.refl _ _⟩
          · intro a w1 hb hs hr
            have e51 : a.tmps.getD 51 undef = .pointer (some ⟨Y4 + 1, 1, none⟩) := hr 51 (by decide) (by apply Array.mem_toList_iff.1; repeat (first | exact List.Mem.head _ | apply List.Mem.tail))
            have kk := K5.out.below hb K5.out.lt
            have x1 : w1.cell? ⟨Y4 + 1, 1, none⟩ = some (.int .i64 fi) := kk.cell 1
            clear kk
            rw [Array.getD_eq_getD_getElem?] at e51
            unfold Oper.wp
            simp only [execOp, Act.eval, Array.getD_eq_getD_getElem?, e51]
            go_simp
            exact ⟨_, rfl, rfl, Below.refl _ _⟩
          · intro a w1 hb hs hr
            have e52 : a.tmps.getD 52 undef = .int .i64 fi := hr 52 (by decide) (by apply Array.mem_toList_iff.1; repeat (first | exact List.Mem.head _ | apply List.Mem.tail))
            have h50 := hr 50 (by decide) (by apply Array.mem_toList_iff.1; repeat (first | exact List.Mem.head _ | apply List.Mem.tail))
            obtain ⟨g1, c1, h50, hg1, ho1⟩ := h50
            have e50 : a.tmps.getD 50 undef = .slice (some ⟨g1, 0, none⟩) n c1 := h50
            have HO1 := hide ho1
            have HG1 := hide hg1
            clear h50 ho1 hg1
            rw [Array.getD_eq_getD_getElem?] at e52
            rw [Array.getD_eq_getD_getElem?] at e50
            unfold Oper.wp
            simp only [execOp, Act.eval, Array.getD_eq_getD_getElem?, e52, e50]
            go_simp
            exact ⟨_, rfl, ⟨g1, c1, rfl, HG1.out, HO1.out⟩, Below.refl _ _⟩
        case fin7 =>
          intro ff w5 hb hr
          have f46 : ff 46 = .map (some ma) := hr 46 (by decide)
          have f47 : ff 47 = .agg #[.string ck, .int .i64 cf, .int .i64 ct] := hr 47 (by decide)
          have f53 : ∃ (g1 c1 : Nat), ff 53 = .agg #[.slice (some ⟨g1, 0, none⟩) n c1, .int .i64 fi] ∧ ws.heap.size ≤ g1 ∧ w5.ownsRow 0 31 8 (.slice (some ⟨g1, 0, none⟩) n c1) n (msgCs (rowsOf l ⟨ck, cf, ct⟩)) := hr 53 (by decide)
          obtain ⟨g1, c1, f53, hg1, hown1⟩ := f53
          have hc5 := HCSs.out.below hb
          have hb5 := HBS.out.trans (hb.mono HBS.out.size)
          have hit5 : SMap.It w5 r0 L.cm cl0.length (seen.push e0.born) := (hb.block r0 HRSs.out).trans HITs.out
          have hge1 : w.heap.size ≤ g1 := by have := HBS.out.size; omega
          have hgn : ¬ g1 ∈ (⟨ma, mb, mc, ds, [], []⟩ : QL).foot Q := fun hm => by have := HCSs.out.lt _ hm; omega
          have hown1' : w5.ownsRow 0 31 8 (.slice (some ⟨g1, 0, none⟩) (rowsOf l ⟨ck, cf, ct⟩).length c1) (rowsOf l ⟨ck, cf, ct⟩).length (msgCs (rowsOf l ⟨ck, cf, ct⟩)) := by rw [HNN.out.1]; exact hown1
          obtain ⟨w6, hmu, hw6, hmb6, hgr6⟩ := SMap.run_mapUpdate (P := Try.prog) keyChan Try.underlying57 ⟨ck, cf, ct⟩ (rowV (rowsOf l ⟨ck, cf, ct⟩) ⟨g1, c1, fi⟩) ma _ w5 hc5.mc
          have hc6 := hc5.addC (x := ⟨g1, c1, fi⟩) hge1 hgn HNEW.out hown1' hmb6 hgr6
          unfold rowV chV at hmu
          rw [HNN.out.1] at hmu
          have hmlo : w.heap.size ≤ ma := hc5.lo _ foot_c
          have hrm : ma ≠ r0 := fun e => HRFr.out (by rw [← e]; exact foot_c)
          have HC6 := hide hc6
          have HB6 := hide (hb5.grown hgr6 (by have := hb5.size; omega) (fun k hk => by injection hk with e; omega))
          have HIT6 := hide (show SMap.It w6 r0 L.cm cl0.length (seen.push e0.born) from (hgr6.block r0 (by have := (Array.getElem?_eq_some_iff.1 hit5).1; exact this) (fun e => hrm (by injection e with e; exact e.symm))).trans hit5)
          have HRF6 := hide (show ¬ r0 ∈ (⟨ma, mb, mc, ds ++ [(⟨ck, cf, ct⟩, ⟨g1, c1, fi⟩)], [], []⟩ : QL).foot Q from fun hm => by
            have h1 : r0 ∈ (⟨ma, mb, mc, ds, [], []⟩ : QL).foot Q ∨ r0 = g1 := by
              unfold QL.foot at hm ⊢
              simp only [List.mem_cons, List.mem_append, List.map_append, List.map_cons, List.map_nil, List.not_mem_nil, or_false] at hm ⊢
              rcases hm with h | h | h | h | h | h <;> simp [h]
            rcases h1 with h1 | h1
            · exact HRFr.out h1
            · have := HRSs.out; omega)
          have HKD6 := hide (show (ks ++ [((⟨ck, cf, ct⟩ : Chan), Value.agg #[.slice (some ⟨g, 0, none⟩) n cap, .int .i64 fi])]).map (·.1) = (ds ++ [((⟨ck, cf, ct⟩ : Chan), (⟨g1, c1, fi⟩ : CRow))]).map (·.1) by rw [List.map_append, List.map_append, HKD.out]; rfl)
          have HFI6 := hide (show ∀ p ∈ ds ++ [((⟨ck, cf, ct⟩ : Chan), (⟨g1, c1, fi⟩ : CRow))], ∃ x, (p.1, x) ∈ L.cl ∧ p.2.fi = x.fi from fun p hp => by
            rcases List.mem_append.1 hp with hp | hp
            · exact HFI.out p hp
            · rw [List.mem_singleton.1 hp]
              exact ⟨_, HZ.out, rfl⟩)
          clear hw6 hb hr hc5 hb5 hit5 hge1 hgn hown1 hown1' hmb6 hgr6 hc6 hmlo hrm hg1
          simp only [putAll, slotsOf, List.take_succ_cons, List.take_zero, List.drop_succ_cons, List.drop_zero, List.filterMap_cons, List.filterMap_nil, List.foldl_cons, List.foldl_nil, Act.put, f46, f47, f53]
          simp only [List.setIfInBounds_toArray, List.set_cons_succ, List.set_cons_zero]
          clear f46 f47 f53
          go_wp2_with fail
          go_roundw
          case rel => exact ⟨seen.push e0.born, ks ++ [(⟨ck, cf, ct⟩, .agg #[.slice (some ⟨g, 0, none⟩) n cap, .int .i64 fi])], ds ++ [(⟨ck, cf, ct⟩, ⟨g1, c1, fi⟩)], HKD6, HFI6, HIT6, HRG1, HC6, HRF6, HB6⟩
          case measure =>
            rw [SMap.iter_seen HIT6.out, SMap.iter_seen HITr.out]
            exact left_shrinks _ seen e0 HE0.out
end Qu
end Go.Proofs.Ytomladbdebfikaa
