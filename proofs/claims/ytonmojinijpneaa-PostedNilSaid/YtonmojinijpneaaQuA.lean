/- The keys of a queue's maps. -/
import Derived.Test.YtonmojinijpneaaRows
import Derived.Test.YtonmojinijpneaaQuP
import Derived.Test.YtonmojinijpneaaSMap
namespace Go.Proofs.Ytonmojinijpneaa
open Go Go.RowKit Go.Lib
set_option linter.unusedVariables false
set_option linter.unusedSimpArgs false
namespace Qu
theorem str_ne {a b : ByteArray} (h : ¬ a = b) : (a.toList == b.toList) = false := by
  rw [beq_eq_false_iff_ne]
  intro e
  apply h
  rw [ByteArray.toList_eq, ByteArray.toList_eq] at e
  exact ByteArray.ext (Array.toList_inj.1 e)
theorem str_eq (a : ByteArray) : (a.toList == a.toList) = true := by simp
def chV (x : Chan) : Value := .agg #[.string x.key, .int .i64 x.fr, .int .i64 x.to]
set_option maxRecDepth 100000 in
theorem run_eqChan (x y : Chan) (w : World) : (Op.equal 95 (chV x) (chV y)).run Try.prog w = .ok (decide (x = y)) w := by
  have u_int := Try.underlying3
  have a_int := Try.isAgg3
  have z_int := Try.sizeOf3
  have u_str := Try.underlying9
  have a_str := Try.isAgg9
  have z_str := Try.sizeOf9
  have hS : Try.prog.underlying 95 = some (.struct (Try.prog.fieldsOf 95)) := by kernel_rfl
  have hp : Try.prog.stoodInHeld 95 = false := by kernel_rfl
  obtain ⟨xkey, xfr, xto⟩ := x
  obtain ⟨ykey, yfr, yto⟩ := y
  unfold Op.equal Op.maxDepth chV
  rw [show (10000 : Nat) = 9999 + 1 from rfl, run_equalIn_agg w 9999 95 _ _ hS hp]
  simp only [Program.fieldsOf, Try.underlying95]
  clear hS hp
  by_cases hkey : xkey = ykey
  rotate_left
  · have e : decide ((⟨xkey, xfr, xto⟩ : Chan) = ⟨ykey, yfr, yto⟩) = false := decide_eq_false fun h => hkey (by injection h)
    rw [e]
    have hs := str_ne hkey
    go_simp
  by_cases hfr : xfr = yfr
  rotate_left
  · have e : decide ((⟨xkey, xfr, xto⟩ : Chan) = ⟨ykey, yfr, yto⟩) = false := decide_eq_false fun h => hfr (by injection h)
    rw [e]
    go_simp
  by_cases hto : xto = yto
  rotate_left
  · have e : decide ((⟨xkey, xfr, xto⟩ : Chan) = ⟨ykey, yfr, yto⟩) = false := decide_eq_false fun h => hto (by injection h)
    rw [e]
    go_simp
  subst hkey hfr hto
  rw [decide_eq_true rfl]
  have hs := str_eq xkey
  go_simp
set_option maxRecDepth 100000 in
theorem run_checkChan (x : Chan) (b : Bool) (w : World) : (Instr.checkKey b 10000 95 (chV x)).run Try.prog w = .ok () w := by
  have u_int := Try.underlying3
  have a_int := Try.isAgg3
  have z_int := Try.sizeOf3
  have u_str := Try.underlying9
  have a_str := Try.isAgg9
  have z_str := Try.sizeOf9
  rw [show (10000 : Nat) = 9998 + 1 + 1 from rfl]
  unfold Instr.checkKey chV
  simp only [Sem.run_bind, run_underlying Try.underlying95, Result.andThen_ok]
  unfold Instr.checkKey
  go_simp
theorem keyChan : SMap.KeyTy Try.prog 95 chV where
  und := ⟨_, Try.underlying95⟩
  eq := run_eqChan
  ok := run_checkChan
  same := fun x => by simp [chV, Instr.sameBits, MapKept.bytes_beq]
def whV (x : Who) : Value := .agg #[.int .i64 x.fr, .int .i64 x.ca]
set_option maxRecDepth 100000 in
theorem run_eqWho (x y : Who) (w : World) : (Op.equal 111 (whV x) (whV y)).run Try.prog w = .ok (decide (x = y)) w := by
  have u_int := Try.underlying3
  have a_int := Try.isAgg3
  have z_int := Try.sizeOf3
  have hS : Try.prog.underlying 111 = some (.struct (Try.prog.fieldsOf 111)) := by kernel_rfl
  have hp : Try.prog.stoodInHeld 111 = false := by kernel_rfl
  obtain ⟨xfr, xca⟩ := x
  obtain ⟨yfr, yca⟩ := y
  unfold Op.equal Op.maxDepth whV
  rw [show (10000 : Nat) = 9999 + 1 from rfl, run_equalIn_agg w 9999 111 _ _ hS hp]
  simp only [Program.fieldsOf, Try.underlying111]
  clear hS hp
  by_cases hfr : xfr = yfr
  rotate_left
  · have e : decide ((⟨xfr, xca⟩ : Who) = ⟨yfr, yca⟩) = false := decide_eq_false fun h => hfr (by injection h)
    rw [e]
    go_simp
  by_cases hca : xca = yca
  rotate_left
  · have e : decide ((⟨xfr, xca⟩ : Who) = ⟨yfr, yca⟩) = false := decide_eq_false fun h => hca (by injection h)
    rw [e]
    go_simp
  subst hfr hca
  rw [decide_eq_true rfl]
  go_simp
set_option maxRecDepth 100000 in
theorem run_checkWho (x : Who) (b : Bool) (w : World) : (Instr.checkKey b 10000 111 (whV x)).run Try.prog w = .ok () w := by
  have u_int := Try.underlying3
  have a_int := Try.isAgg3
  have z_int := Try.sizeOf3
  rw [show (10000 : Nat) = 9998 + 1 + 1 from rfl]
  unfold Instr.checkKey whV
  simp only [Sem.run_bind, run_underlying Try.underlying111, Result.andThen_ok]
  unfold Instr.checkKey
  go_simp
theorem keyWho : SMap.KeyTy Try.prog 111 whV where
  und := ⟨_, Try.underlying111⟩
  eq := run_eqWho
  ok := run_checkWho
  same := fun x => by simp [whV, Instr.sameBits, MapKept.bytes_beq]
def inV (x : Inb) : Value := .agg #[.string x.key, .int .i64 x.to]
set_option maxRecDepth 100000 in
theorem run_eqInb (x y : Inb) (w : World) : (Op.equal 114 (inV x) (inV y)).run Try.prog w = .ok (decide (x = y)) w := by
  have u_int := Try.underlying3
  have a_int := Try.isAgg3
  have z_int := Try.sizeOf3
  have u_str := Try.underlying9
  have a_str := Try.isAgg9
  have z_str := Try.sizeOf9
  have hS : Try.prog.underlying 114 = some (.struct (Try.prog.fieldsOf 114)) := by kernel_rfl
  have hp : Try.prog.stoodInHeld 114 = false := by kernel_rfl
  obtain ⟨xkey, xto⟩ := x
  obtain ⟨ykey, yto⟩ := y
  unfold Op.equal Op.maxDepth inV
  rw [show (10000 : Nat) = 9999 + 1 from rfl, run_equalIn_agg w 9999 114 _ _ hS hp]
  simp only [Program.fieldsOf, Try.underlying114]
  clear hS hp
  by_cases hkey : xkey = ykey
  rotate_left
  · have e : decide ((⟨xkey, xto⟩ : Inb) = ⟨ykey, yto⟩) = false := decide_eq_false fun h => hkey (by injection h)
    rw [e]
    have hs := str_ne hkey
    go_simp
  by_cases hto : xto = yto
  rotate_left
  · have e : decide ((⟨xkey, xto⟩ : Inb) = ⟨ykey, yto⟩) = false := decide_eq_false fun h => hto (by injection h)
    rw [e]
    go_simp
  subst hkey hto
  rw [decide_eq_true rfl]
  have hs := str_eq xkey
  go_simp
set_option maxRecDepth 100000 in
theorem run_checkInb (x : Inb) (b : Bool) (w : World) : (Instr.checkKey b 10000 114 (inV x)).run Try.prog w = .ok () w := by
  have u_int := Try.underlying3
  have a_int := Try.isAgg3
  have z_int := Try.sizeOf3
  have u_str := Try.underlying9
  have a_str := Try.isAgg9
  have z_str := Try.sizeOf9
  rw [show (10000 : Nat) = 9998 + 1 + 1 from rfl]
  unfold Instr.checkKey inV
  simp only [Sem.run_bind, run_underlying Try.underlying114, Result.andThen_ok]
  unfold Instr.checkKey
  go_simp
theorem keyInb : SMap.KeyTy Try.prog 114 inV where
  und := ⟨_, Try.underlying114⟩
  eq := run_eqInb
  ok := run_checkInb
  same := fun x => by simp [inV, Instr.sameBits, MapKept.bytes_beq]
end Qu
end Go.Proofs.Ytonmojinijpneaa
