/-
  Pairs and changes held against each other.
-/
import Derived.Test.YtaiehccpefjbfaaMapOkI
import Derived.Test.YtaiehccpefjbfaaChg
import Derived.Laws.StructEq
namespace Go.Proofs.Ytaiehccpefjbfaa
open Go.RowKit

theorem pairFields : Try.prog.underlying 172 = some (.struct (Try.prog.fieldsOf 172)) := by kernel_rfl
theorem pairHeld : Try.prog.stoodInHeld 172 = false := by kernel_rfl
theorem pairGuard : Try.prog.eqGuardType Try.prog.depth 172 = false := by kernel_rfl
theorem neqPair (p q : BB) (w : World) :
    (binOp .neq 172 (.agg #[.string p.1, .string p.2]) (.agg #[.string q.1, .string q.2])).run Try.prog w = .ok (.bool (!decide (p = q))) w := by
  have u9 := Try.underlying9
  have a9 := Try.isAgg9
  have z9 := Try.sizeOf9
  rw [run_neq_struct, show (10000 : Nat) = 9999 + 1 from rfl, run_equalIn_agg w 9999 172 _ _ pairFields pairHeld]
  simp only [Program.fieldsOf, Try.underlying172]
  by_cases h1 : p.1 = q.1
  · by_cases h2 : p.2 = q.2
    · have g1 := eqS_true h1
      have g2 := eqS_true h2
      have e : decide (p = q) = true := by simp [Prod.ext_iff, h1, h2]
      rw [e]
      clear h1 h2 e
      go_simp
    · have g1 := eqS_true h1
      have g2 := eqS_false h2
      have e : decide (p = q) = false := by simp [Prod.ext_iff, h2]
      rw [e]
      clear h1 h2 e
      go_simp
  · have g1 := eqS_false h1
    have e : decide (p = q) = false := by simp [Prod.ext_iff, h1]
    rw [e]
    clear h1 e
    go_simp

theorem eqlPair (p q : BB) (w : World) :
    (binOp .eql 172 (.agg #[.string p.1, .string p.2]) (.agg #[.string q.1, .string q.2])).run Try.prog w = .ok (.bool (decide (p = q))) w := by
  have u9 := Try.underlying9
  have a9 := Try.isAgg9
  have z9 := Try.sizeOf9
  rw [run_eql_struct, show (10000 : Nat) = 9999 + 1 from rfl, run_equalIn_agg w 9999 172 _ _ pairFields pairHeld]
  simp only [Program.fieldsOf, Try.underlying172]
  by_cases h1 : p.1 = q.1
  · by_cases h2 : p.2 = q.2
    · have g1 := eqS_true h1
      have g2 := eqS_true h2
      have e : decide (p = q) = true := by simp [Prod.ext_iff, h1, h2]
      rw [e]
      clear h1 h2 e
      go_simp
    · have g1 := eqS_true h1
      have g2 := eqS_false h2
      have e : decide (p = q) = false := by simp [Prod.ext_iff, h2]
      rw [e]
      clear h1 h2 e
      go_simp
  · have g1 := eqS_false h1
    have e : decide (p = q) = false := by simp [Prod.ext_iff, h1]
    rw [e]
    clear h1 e
    go_simp


theorem chgFields : Try.prog.underlying 129 = some (.struct (Try.prog.fieldsOf 129)) := by kernel_rfl
theorem chgHeld : Try.prog.stoodInHeld 129 = false := by kernel_rfl
theorem chgGuard : Try.prog.eqGuardType Try.prog.depth 129 = false := by kernel_rfl
theorem neqChg (p q : CD) (w : World) :
    (binOp .neq 129 (.agg #[.string p.1, .string p.2.1, .bool p.2.2]) (.agg #[.string q.1, .string q.2.1, .bool q.2.2])).run Try.prog w = .ok (.bool (!decide (p = q))) w := by
  have u9 := Try.underlying9
  have a9 := Try.isAgg9
  have z9 := Try.sizeOf9
  have u4 := Try.underlying4
  have a4 := Try.isAgg4
  have z4 := Try.sizeOf4
  rw [run_neq_struct, show (10000 : Nat) = 9999 + 1 from rfl, run_equalIn_agg w 9999 129 _ _ chgFields chgHeld]
  simp only [Program.fieldsOf, Try.underlying129]
  by_cases h1 : p.1 = q.1
  · by_cases h2 : p.2.1 = q.2.1
    · have g1 := eqS_true h1
      have g2 := eqS_true h2
      cases hp : p.2.2 <;> cases hq : q.2.2
      · have e : decide (p = q) = true := by simp [Prod.ext_iff, h1, h2, hp, hq]
        rw [e]
        clear h1 h2 e
        go_simp
      · have e : decide (p = q) = false := by simp [Prod.ext_iff, hp, hq]
        rw [e]
        clear h1 h2 e
        go_simp
      · have e : decide (p = q) = false := by simp [Prod.ext_iff, hp, hq]
        rw [e]
        clear h1 h2 e
        go_simp
      · have e : decide (p = q) = true := by simp [Prod.ext_iff, h1, h2, hp, hq]
        rw [e]
        clear h1 h2 e
        go_simp
    · have g1 := eqS_true h1
      have g2 := eqS_false h2
      have e : decide (p = q) = false := by simp [Prod.ext_iff, h2]
      rw [e]
      clear h1 h2 e
      go_simp
  · have g1 := eqS_false h1
    have e : decide (p = q) = false := by simp [Prod.ext_iff, h1]
    rw [e]
    clear h1 e
    go_simp
end Go.Proofs.Ytaiehccpefjbfaa
