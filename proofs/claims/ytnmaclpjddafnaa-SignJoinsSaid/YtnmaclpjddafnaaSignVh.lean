/- Two signatures joined: the program's Join. -/
import Derived.Test.YtnmaclpjddafnaaRows
import Derived.Test.YtnmaclpjddafnaaSignVf
import Derived.Test.YtnmaclpjddafnaaSignVg
import Derived.Test.YtnmaclpjddafnaaSignH
import Derived.Test.YtnmaclpjddafnaaSignIn
namespace Go.Proofs.Ytnmaclpjddafnaa
open Go Go.RowKit Go.Sort Go.Lib
set_option linter.unusedVariables false
set_option linter.unusedSimpArgs false
namespace Jn
def JoinPost (a b : List Ch) (w : World) (e : Ending) (w' : World) : Prop :=
  ((agL a b = false ∧ e = .returned (.tuple #[.slice none 0 0, .int .i64 2])) ∨ (agL a b = true ∧ ∃ l V c, IsJoin a b l ∧ e = .returned (.tuple #[.slice V l.length c, .int .i64 0]) ∧ JRow w.heap.size w' V l)) ∧ Below w.heap.size w w'
set_option maxRecDepth 100000 in
set_option maxHeartbeats 8000000 in
theorem Join_a (A B : Option Addr) (ca cb : Nat) (a b : List Ch) (w : World) (ha : CRow w A a) (hb : CRow w B b) (hla : a.length ≤ 1000) (hlb : b.length ≤ 1000) :
    Calls Try.prog 6 #[.slice A a.length ca, .slice B b.length cb] w (JoinPost a b w) := by
  have AG := hide (Agree_a A B ca cb a b w ha hb hla hlb)
  rcases hag : agL a b with _ | _
  · rw [hag] at AG
    have HAG := hide hag
    clear hag ha hb
    go_enter Try.func6, Try.ntmps6
    go_wp2_with fail
    refine AG.out.mono ?_
    rintro e w1 ⟨rfl, hb1⟩
    have HB1 := hide hb1
    clear hb1
    go_wp2_with fail
    exact bodyPost_ret (v := .tuple #[.slice none 0 0, .int .i64 2]) (by simp [results, Try.results6, go_sem]) rfl ⟨.inl ⟨HAG.out, rfl⟩, HB1.out⟩
  rw [hag] at AG
  have HAG := hide hag
  have HA := hide ha
  have HB := hide hb
  obtain ⟨i0, hi0, hz0, hz1, hz2⟩ := info_parts ch_info
  have HI := hide (And.intro hi0 (And.intro hz0 (And.intro hz1 hz2)))
  clear hag ha hb hi0 hz0 hz1 hz2
  go_enter Try.func6, Try.ntmps6
  go_wp2_with fail
  refine AG.out.mono ?_
  rintro e w1 ⟨rfl, hb1⟩
  have CL := hide (Clone_a A ca a w1 (HA.out.below hb1) (by omega))
  have HB1 := hide hb1
  clear hb1
  go_wp2_with fail
  refine CL.out.mono ?_
  rintro e w2 ⟨v, rfl, ho2, hb2⟩
  have HB2 := hide (HB1.out.trans (hb2.mono HB1.out.size))
  have ho2' := own_base ho2 HB1.out.size
  obtain ⟨v3, w3, hrun, ho3, hg3, _⟩ := run_append_any (P := Try.prog) w2 w.heap.size 22 22 24 i0 _ 5 40 Try.underlying22 HI.out.1 HI.out.2.1 HI.out.2.2.1 HI.out.2.2.2 (by rfl) (by omega) v a.length (chs a) ho2' w2.heap.size B b.length cb (chs b) (crow_reads (HB.out.below HB2.out)) (chs_one' b) (by unfold maxLen; omega) (by omega) HB2.out.size
  have RUN := hide hrun
  have hB3 : Below w.heap.size w w3 := HB2.out.grown hg3 HB2.out.size (fun g e => (own_block ho2' e).1)
  rw [← chs_app] at ho3
  have HB3 := hide hB3
  have HO3 := hide ho3
  obtain ⟨V, c3, rfl, hcap⟩ := own_form ho3
  clear hrun hg3 hB3 ho2 ho2' hb2 CL AG ho3
  go_wp2_with (at_builtin; refine Lib.wpList_append_run _ rfl _ _ _ _ rfl _ _ rfl rfl _ _ RUN.out ?_)
  rcases Nat.eq_zero_or_pos (a.length + b.length) with hn | hn
  · have ea : a = [] := List.eq_nil_of_length_eq_zero (by omega)
    have eb : b = [] := List.eq_nil_of_length_eq_zero (by omega)
    rw [hn]
    have SN := hide (sort_nil V c3 (.func (.func 17) #[] #[]) w3)
    have CN := hide (compact_s V 0 c3 w3 (by omega))
    refine SN.out.mono ?_
    rintro e w' ⟨rfl, rfl⟩
    go_wp2_with fail
    refine CN.out.mono ?_
    rintro e w' ⟨rfl, rfl⟩
    go_wp2_with fail
    refine bodyPost_ret (v := .tuple #[.slice V 0 c3, .int .i64 0]) (by simp [results, Try.results6, go_sem]) rfl ?_
    exact ⟨.inr ⟨HAG.out, [], V, c3, ⟨by decide, fun t => by rw [ea, eb]; simp⟩, rfl, fun h => absurd h (Nat.lt_irrefl 0)⟩, HB3.out⟩
  · obtain ⟨h1, h2⟩ := hcap hn
    obtain ⟨g, rfl, hge, _, ⟨cs, hbk⟩, _, _, _⟩ := own_cell HO3.out hn
    have hL : (a ++ b).length = a.length + b.length := List.length_append
    have hH := holds_own (L := a ++ b) (by rw [hL]; exact HO3.out) (by rw [hL]; exact hn)
    have hglt := hbk.lt
    have SC := sort_c g c3 (a ++ b).toArray w3 hH hglt (by simp; omega)
    rw [show (a ++ b).toArray.size = a.length + b.length by simp] at SC
    have HSC := hide SC
    have HBK := hide hbk
    clear SC hH hbk
    refine HSC.out.mono ?_
    rintro e w4 ⟨d', rfl, hp, hs, hh, hg4⟩
    have hp' : d'.toList.Perm (a ++ b) := by simpa using hp
    have hsz : d'.size = a.length + b.length := by have := hp'.length_eq; simpa using this
    have HB4 := hide (HB3.out.grown hg4 HB3.out.size (fun k e => by injection e with e; omega))
    have hg4' : g < w4.heap.size := Nat.lt_of_lt_of_le hglt hg4.size
    have HJ := hide (comp_join HAG.out hp' hs)
    have HH := hide hh
    rw [← hsz] at h1 hn ⊢
    by_cases h2' : d'.size < 2
    · have CS := hide (compact_s (some ⟨g, 0, none⟩) d'.size c3 w4 h2')
      have E : Hid (compactUpTo d' d'.size = d'.toList) := hide (by rw [compactUpTo_all d' _ (fun j hj => keeps_lt_one d' j (by omega)), range_map_get])
      clear hp hp' hs hh hg4 hsz HBK HSC
      go_wp2_with fail
      refine CS.out.mono ?_
      rintro e w' ⟨rfl, rfl⟩
      go_wp2_with fail
      refine bodyPost_ret (v := .tuple #[.slice (some ⟨g, 0, none⟩) d'.size c3, .int .i64 0]) (by simp [results, Try.results6, go_sem]) rfl ?_
      refine ⟨.inr ⟨HAG.out, d'.toList, some ⟨g, 0, none⟩, c3, by rw [← E.out]; exact HJ.out, by simp, fun _ => ⟨g, rfl, hge, hg4', by simpa using HH.out⟩⟩, HB4.out⟩
    · have CC := hide (compact_c g c3 d' w4 hh (by omega) (by omega) (by omega) h2)
      clear hp hp' hs hh hg4 hsz HBK HSC
      go_wp2_with fail
      refine CC.out.mono ?_
      rintro e w5 ⟨rfl, hh5, hg5⟩
      have HB5 := hide (HB4.out.grown hg5 HB4.out.size (fun k e => by injection e with e; omega))
      have HG5 := hide hg5.size
      have HH5 := hide hh5
      clear hh5 hg5
      go_wp2_with fail
      refine bodyPost_ret (v := .tuple #[.slice (some ⟨g, 0, none⟩) (compactUpTo d' d'.size).length c3, .int .i64 0]) (by simp [results, Try.results6, go_sem]) rfl ?_
      exact ⟨.inr ⟨HAG.out, _, some ⟨g, 0, none⟩, c3, HJ.out, rfl, fun _ => ⟨g, rfl, hge, Nat.lt_of_lt_of_le hg4' HG5.out, HH5.out⟩⟩, HB5.out⟩
end Jn
end Go.Proofs.Ytnmaclpjddafnaa
