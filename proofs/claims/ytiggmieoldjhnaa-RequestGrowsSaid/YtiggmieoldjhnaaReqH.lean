/- Requests that are taken: the program's Take. -/
import Derived.Test.YtiggmieoldjhnaaRows
import Derived.Test.YtiggmieoldjhnaaReqG
namespace Go.Proofs.Ytiggmieoldjhnaa
open Go Go.RowKit Go.Shelf Go.Proofs.Ytiggmieoldjhnaa.Grp
attribute [local go_sem] Oper.semAt_some
set_option linter.unusedVariables false
set_option linter.unusedSimpArgs false
namespace Req
/-- May these be taken? -/
def takeOk (rs : List Rq) (l : List Int) : Prop := okT rs l ∧ ∀ x ∈ l, (rs.getD x.toNat default).done = true
instance (rs : List Rq) (l : List Int) : Decidable (takeOk rs l) := by unfold takeOk; infer_instance
def takR (rs : List Rq) (is : List Nat) : List Rq := is.foldl (fun r i => r.set i (r.getD i default).taken) rs
theorem takR_len (is : List Nat) : ∀ rs, (takR rs is).length = rs.length := by
  induction is with
  | nil => intro rs; rfl
  | cons i is ih => intro rs; rw [takR, List.foldl_cons]; exact (ih _).trans (List.length_set ..)
theorem takR_snoc (rs : List Rq) (is : List Nat) (i : Nat) : takR rs (is ++ [i]) = (takR rs is).set i ((takR rs is).getD i default).taken := by
  unfold takR
  rw [List.foldl_append]
  rfl
/-- A box that holds a row of requests of one's own. -/
def OutR (w : World) (X C : Nat) (l : List Rq) : Prop := ∃ A c, Blk w X 33 #[.slice A l.length c] ∧ w.ownsRow C 47 6 (.slice A l.length c) l.length (rqCs l)
theorem OutR.keep {tys : List TypeId} {w w' : World} {X C : Nat} {l : List Rq} (h : OutR w X C l) (k : KeepsBut tys w w') (h1 : ¬ 33 ∈ tys) (h2 : ¬ 47 ∈ tys) : OutR w' X C l := by
  obtain ⟨A, c, hb, ho⟩ := h
  exact ⟨A, c, KeepsBut.blk k hb h1, KeepsBut.own k ho h2⟩
theorem OutR.own {β : Type} (X C : Nat) (f : β → List Rq) : Own (fun s W => OutR W X C (f s)) := own_of_keeps fun s W W' h k => h.keep k (by simp) (by simp)
theorem push_boxR (w : World) (X C : Nat) (A : Option Addr) (c : Nat) (l : List Rq) (x : Rq) (hC : C ≤ w.heap.size) (hl : l.length ≤ 1000) (hb : Blk w X 33 #[.slice A l.length c]) (ho : w.ownsRow C 47 6 (.slice A l.length c) l.length (rqCs l)) :
    ∃ A1 c1 w1, (Builtin.append_ #[33, 33] 33 #[.slice A l.length c, .slice (some ⟨w.heap.size, 0, none⟩) 1 1]).run Try.prog (w.alloc (.cells #[.bool x.recv, .bool x.done, .bool x.gone, .int .i64 x.v, .int .i64 x.p, .int .i64 x.t] 47)) = .ok (.slice A1 (l.length + 1) c1) w1 ∧
      Pushed w w1 X C 33 47 6 (l.length + 1) (.slice A l.length c) (.slice A1 (l.length + 1) c1) (rqCs (l ++ [x])) := by
  have ba := (Below.refl w.heap.size w).alloc (Nat.le_refl _) (.cells #[.bool x.recv, .bool x.done, .bool x.gone, .int .i64 x.v, .int .i64 x.p, .int .i64 x.t] 47)
  have kb := Blk.new w 47 #[.bool x.recv, .bool x.done, .bool x.gone, .int .i64 x.v, .int .i64 x.p, .int .i64 x.t]
  have ow := own_belowR ho ba
  have hs1 : (w.alloc (.cells #[.bool x.recv, .bool x.done, .bool x.gone, .int .i64 x.v, .int .i64 x.p, .int .i64 x.t] 47)).heap.size = w.heap.size + 1 := by simp
  obtain ⟨Wz, hWz⟩ : ∃ x', w.alloc (.cells #[.bool x.recv, .bool x.done, .bool x.gone, .int .i64 x.v, .int .i64 x.p, .int .i64 x.t] 47) = x' := ⟨_, rfl⟩
  rw [hWz] at ba kb ow hs1 ⊢
  have hrd : Reads Wz Wz.heap.size 6 (some ⟨w.heap.size, 0, none⟩) 1 (rqC x) := ⟨rfl, fun _ => ⟨_, rfl, kb.lt, fun j u hu => by rw [add_lit, kb.cell]; unfold rqC at hu; simpa using hu⟩⟩
  obtain ⟨i0, hi0, hz0', hz1, hz2⟩ := info_parts rq_info
  obtain ⟨v11, w11, hrun, hown, hk11, hob⟩ := run_append_any (P := Try.prog) Wz C 33 33 47 i0 _ 6 32 Try.underlying33 hi0 hz0' hz1 hz2 (by rfl) (by omega) _ _ _ ow Wz.heap.size (some ⟨w.heap.size, 0, none⟩) 1 1 _ hrd (by intro u hu; unfold rqC at hu; simp only [List.mem_cons, List.not_mem_nil, or_false] at hu; rcases hu with rfl | rfl | rfl | rfl | rfl | rfl <;> rfl) (by unfold maxLen; omega) (by omega) (by omega)
  obtain ⟨A11, c11, rfl⟩ := own_form hown
  exact ⟨A11, c11, w11, hrun, pushed w Wz w11 X C 6 _ _ _ _ _ _ _ hWz hC (by decide) (by decide) hb ow hk11 (by rw [rqCs_app]; simpa [rqCs] using hown)⟩
/-- Under okT every place of the row has its request. -/
theorem askL_ok {rs : List Rq} {l : List Int} (h : okF rs l) : ∀ k, k ≤ l.length → (askL rs.length l k).map (fun x => x.i) = (l.take k).map Int.toNat
  | 0, _ => by simp [askL]
  | k + 1, hk => by
    have hx := h.1 _ (Grp.getD_mem (show k < l.length by omega))
    obtain ⟨h1, h2, _⟩ := hx
    obtain ⟨y, hy⟩ : ∃ y : Nat, l.getD k 0 = (y : Int) := ⟨(l.getD k 0).toNat, by omega⟩
    rw [askL_yes (show k < l.length by omega) (show y < rs.length by omega) hy, List.map_append, askL_ok h k (by omega), Grp.take_snoc l k (by omega), List.map_append, hy]
    rfl
def picked (rs : List Rq) (is : List Nat) : List Rq := is.map fun i => rs.getD i default
def TakePost (T B : Nat) (rs : List Rq) (l : List Int) (w : World) (e : Ending) (w' : World) : Prop :=
  (takeOk rs l ∧ ∃ A' c', e = .returned (.tuple #[.slice A' l.length c', .int .i64 0]) ∧ w'.ownsRow w.heap.size 47 6 (.slice A' l.length c') l.length (rqCs (picked rs (l.map Int.toNat))) ∧ PR w' T B (takR rs (l.map Int.toNat)) ∧ Below B w w' ∧ KeepsBut [47] w w') ∨
  (¬ takeOk rs l ∧ e = .returned (.tuple #[.slice none 0 0, .int .i64 120]) ∧ Below w.heap.size w w')
set_option maxRecDepth 100000 in
set_option maxHeartbeats 4000000 in
theorem Take_no (T B : Nat) (rs : List Rq) (A : Option Addr) (cap : Nat) (l : List Int) (w : World) (h : PR w T B rs) (hr : NRow w A l) (hl : l.length ≤ 1000) (hcap : l.length ≤ cap) (hno : ¬ okT rs l) :
    Calls Try.prog 9 #[.pointer (some ⟨T, 0, none⟩), .slice A l.length cap] w (TakePost T B rs l w) := by
  have hB : Below w.heap.size w ((w.alloc (.cells #[.slice none 0 0] 33)).alloc (.cells #[.int .i64 0] 30)) := ((Below.refl _ w).alloc (Nat.le_refl _) _).alloc (by simp) _
  have MC := hide (May_c T B rs A cap l _ (h.below hB) (hr.below hB) hl hcap)
  rw [show mayE rs l = 120 from if_neg hno] at MC
  have HB := hide hB
  have HNO := hide (show ¬ takeOk rs l from fun h => hno h.1)
  clear h hr hl hcap hno hB
  refine (callsIn_wide (n := 3)).1 ?_
  refine callsIn_of_wp_marks Try.func9 rfl trivial ?_ rfl
  simp only [Try.ntmps9, List.size_toArray, List.length_cons, List.length_nil, Nat.reduceAdd, Nat.reduceSub, Array.replicate_succ, Array.replicate_zero, List.push_toArray, List.append_toArray, List.nil_append, List.cons_append]
  gi_wp2_with (refine ⟨trivial, ?_⟩; gi_at_call 16; refine (callsIn_wide.2 MC.out).mono ?_; rintro e w' ⟨rfl, rfl⟩)
  refine ⟨.tuple #[.slice none 0 0, .int .i64 120], by simp [results, Try.f9, go_sem], .inr ⟨HNO.out, rfl, ?_⟩⟩
  exact ((Below.refl _ w).alloc (Nat.le_refl _) _).alloc (by simp) _
end Req
end Go.Proofs.Ytiggmieoldjhnaa
