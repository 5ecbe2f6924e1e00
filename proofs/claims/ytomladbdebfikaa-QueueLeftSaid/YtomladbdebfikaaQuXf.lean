/- Taking a channel's first messages one by one; a queue beside a row of numbers of one's own. -/
import Derived.Test.YtomladbdebfikaaRows
import Derived.Test.YtomladbdebfikaaQuXe
namespace Go.Proofs.Ytomladbdebfikaa
open Go Go.RowKit Go.Lib
set_option linter.unusedVariables false
set_option linter.unusedSimpArgs false
namespace Qu
def sel (c : Chan) (tag : Int) (m : Msg) : Bool := isM m c && tagged tag m
theorem first_sel (l : List Msg) (c : Chan) (tag : Int) : firstL l c tag = (l.filter (sel c tag)).head? := by
  rw [List.head?_filter]
  rfl
theorem take_sel {l R : List Msg} {m : Msg} {c : Chan} {tag : Int} (hu : Uniq l) (h : l.filter (sel c tag) = m :: R) :
    takeE l m.who = 0 ∧ (takeL l m.who).filter (sel c tag) = R ∧ takeE (takeL l m.who) m.who = 2 ∧ takeL (takeL l m.who) m.who = takeL l m.who ∧ (takeL l m.who).length = l.length ∧ m.ch = c := by
  obtain ⟨A, B, rfl, hA, hm, hB⟩ := List.filter_eq_cons_iff.1 h
  have hsel : isM m c = true ∧ tagged tag m = true := by
    unfold sel at hm
    simpa using hm
  have htk : m.tk = false ∧ m.ch = c := by
    have := hsel.1
    unfold isM at this
    simpa using this
  have hi : (A ++ m :: B)[A.length]? = some m := by simp
  have hp := plc_uniq hu hi
  have ht : takeL (A ++ m :: B) m.who = A ++ m.took :: B := by
    unfold takeL
    rw [hp]
    show (A ++ m :: B).modify A.length Msg.took = _
    rw [modify_cut _ hi]
    simp
  have hi2 : (A ++ m.took :: B)[A.length]? = some m.took := by simp
  have hp2 : plc (A ++ m.took :: B) m.who = some A.length := by
    rw [← ht]
    unfold takeL
    rw [hp]
    show plc ((A ++ m :: B).modify A.length Msg.took) m.who = _
    rw [plc_take, hp]
  have hns : ¬ sel c tag m.took = true := by
    unfold sel isM Msg.took
    simp
  refine ⟨?_, ?_, ?_, ?_, ?_, htk.2⟩
  · unfold takeE findL
    rw [hp, Option.map_some, List.getD_eq_getElem?_getD, hi]
    show (if m.tk = true then (2 : Int) else 0) = 0
    rw [htk.1]
    rfl
  · rw [ht, List.filter_append, List.filter_cons, if_neg hns, List.filter_eq_nil_iff.2 hA, hB]
    rfl
  · rw [ht]
    unfold takeE findL
    rw [hp2, Option.map_some, List.getD_eq_getElem?_getD, hi2]
    rfl
  · rw [ht]
    conv => lhs; unfold takeL
    rw [hp2]
    show (A ++ m.took :: B).modify A.length Msg.took = _
    exact modify_same hi2 rfl
  · exact takeL_len' _ _
where takeL_len' (l : List Msg) (v : Who) : (takeL l v).length = l.length := by unfold takeL; split <;> simp
theorem send_new {l : List Msg} {m : Msg} (hm : mayM m) (h : ∀ x ∈ l, x.ca < m.ca) : sendE l m = 0 ∧ sendL l m = l ++ [m] := by
  have hp : plc l m.who = none := plc_none.2 fun x hx e => by
    have h1 : x.ca = m.ca := congrArg Who.ca e
    have := h x hx
    omega
  unfold sendE sendL
  rw [if_pos ⟨hm, hp⟩, if_pos ⟨hm, hp⟩]
  exact ⟨rfl, rfl⟩
variable {w w' : World} {B q c : Nat} {L : QL} {l l' : List Msg} {A : Option Addr} {ws : List Int}
structure WQ (w : World) (B q : Nat) (L : QL) (l : List Msg) (A : Option Addr) (c : Nat) (ws : List Int) : Prop where
  q1 : Q1 w B q L l
  own : w.ownsRow B 3 1 (.slice A ws.length c) ws.length (ints ws)
  ap : ∀ g, (Value.slice A ws.length c).ownBlock = some g → ¬ g ∈ L.foot q
theorem WQ.below (h : WQ w B q L l A c ws) (hb : Below w.heap.size w w') : WQ w' B q L l A c ws := ⟨h.q1.below hb, own_belowR h.own hb, h.ap⟩
theorem WQ.go (h : WQ w B q L l A c ws) (hg : Goes w q L l' w') : ∃ L', WQ w' B q L' l' A c ws ∧ Below B w w' := by
  obtain ⟨L2, h1, h2⟩ := h.q1.go hg
  obtain ⟨L', k1, k2, k3⟩ := hg
  have hlo : ∀ b ∈ L'.foot q, B ≤ b := fun b hb => by
    rcases k3 b hb with h4 | h4
    · exact h.q1.lo b h4
    · have := h.q1.size; omega
  refine ⟨L', ⟨⟨k1, hlo⟩, ⟨h.own.1, h.own.2.imp id ?_⟩, fun g hg hm => ?_⟩, h2⟩
  · rintro ⟨g, cap, cur, hv, hge, hh, r⟩
    exact ⟨g, cap, cur, hv, hge, (k2.block g (Array.getElem?_eq_some_iff.1 hh).1 (h.ap g (by rw [hv]; rfl))).trans hh, r⟩
  · rcases k3 g hm with h4 | h4
    · exact h.ap g hg h4
    · have := (own_block h.own hg).2.1
      omega
theorem WQ.goX (h : WQ w B q L l A c ws) (hg : Goes w q L l' w') {X : Nat} {t : TypeId} {cs : Array Value} (k : Blk w X t cs) (hX : ¬ X ∈ L.foot q) : ∃ L', WQ w' B q L' l' A c ws ∧ Below B w w' ∧ Blk w' X t cs ∧ ¬ X ∈ L'.foot q := by
  have hk := Goes.kept h.q1 hg k hX
  obtain ⟨L2, h1, h2⟩ := h.q1.go hg
  obtain ⟨L', k1, k2, k3⟩ := hg
  have hlo : ∀ b ∈ L'.foot q, B ≤ b := fun b hb => by
    rcases k3 b hb with h4 | h4
    · exact h.q1.lo b h4
    · have := h.q1.size; omega
  refine ⟨L', ⟨⟨k1, hlo⟩, ⟨h.own.1, h.own.2.imp id ?_⟩, fun g hg hm => ?_⟩, h2, hk, fun hm => ?_⟩
  · rintro ⟨g, cap, cur, hv, hge, hh, r⟩
    exact ⟨g, cap, cur, hv, hge, (k2.block g (Array.getElem?_eq_some_iff.1 hh).1 (h.ap g (by rw [hv]; rfl))).trans hh, r⟩
  · rcases k3 g hm with h4 | h4
    · exact h.ap g hg h4
    · have := (own_block h.own hg).2.1
      omega
  · rcases k3 X hm with h4 | h4
    · exact hX h4
    · have := k.lt
      omega
theorem WQ.new (h : Q1 w B q L l) : WQ w B q L l none 0 [] := ⟨h, ⟨rfl, .inl ⟨rfl, rfl⟩⟩, fun g hg => by cases hg⟩
set_option maxRecDepth 100000 in
theorem WQ.push (h : WQ w B q L l A c ws) (x : Int) (hl : ws.length ≤ 100000) :
    ∃ A1 c1 w1, (Builtin.append_ #[49, 49] 49 #[.slice A ws.length c, .slice (some ⟨w.heap.size, 0, none⟩) 1 1]).run Try.prog (w.alloc (.cells #[.int .i64 x] 3)) = .ok (.slice A1 (ws.length + 1) c1) w1 ∧ WQ w1 B q L l A1 c1 (ws ++ [x]) ∧ Below B w w1 ∧ w.grownBy w1 (Value.slice A ws.length c).ownBlock := by
  have ba := (Below.refl w.heap.size w).alloc (Nat.le_refl _) (.cells #[.int .i64 x] 3)
  have kb := Blk.new w 3 #[.int .i64 x]
  have ow := own_belowR h.own ba
  have hq := h.q1.below ba
  have hB := h.q1.size
  have hs1 : (w.alloc (.cells #[.int .i64 x] 3)).heap.size = w.heap.size + 1 := by simp
  obtain ⟨Wz, hWz⟩ : ∃ x', w.alloc (.cells #[.int .i64 x] 3) = x' := ⟨_, rfl⟩
  rw [hWz] at ba kb ow hs1 hq ⊢
  have hrd : Reads Wz Wz.heap.size 1 (some ⟨w.heap.size, 0, none⟩) 1 [.int .i64 x] := ⟨rfl, fun _ => ⟨_, rfl, kb.lt, fun j u hu => by rw [add_lit, kb.cell]; simpa using hu⟩⟩
  obtain ⟨i0, hi0, hz0', hz1, hz2⟩ := info_parts int_infoQ
  obtain ⟨v11, w11, hrun, hown, hk11, hob⟩ := run_append_any (P := Try.prog) Wz B 49 49 3 i0 _ 1 8 Try.underlying49 hi0 hz0' hz1 hz2 (by rfl) (by omega) _ _ _ ow Wz.heap.size (some ⟨w.heap.size, 0, none⟩) 1 1 _ hrd (by intro u hu; rw [List.mem_singleton.1 hu]; rfl) (by unfold maxLen; omega) (by omega) (by omega)
  obtain ⟨A11, c11, rfl⟩ := own_form hown
  have hfoot : ∀ b ∈ L.foot q, w11.heap[b]? = Wz.heap[b]? := fun b hb => hk11.block b (hq.qs.lt b hb) fun e => h.ap b e.symm hb
  refine ⟨A11, c11, w11, hrun, ⟨⟨hq.qs.keep hfoot, h.q1.lo⟩, ?_, fun g hg hm => ?_⟩, (ba.mono hB).grown hk11 (by omega) (fun g e => (own_block h.own e).1), gtrans (grown_of_below ba) hk11⟩
  · rw [List.length_append, ints_app]
    exact hown
  · rw [List.length_append] at hg
    have hg' : (Value.slice A11 (ws.length + 1) c11).ownBlock = some g := hg
    rcases hob with e | e
    · exact h.ap g (e.symm.trans hg') hm
    · have e2 := e.symm.trans hg'
      injection e2 with e2
      have := h.q1.qs.lt g hm
      omega
end Qu
end Go.Proofs.Ytomladbdebfikaa
