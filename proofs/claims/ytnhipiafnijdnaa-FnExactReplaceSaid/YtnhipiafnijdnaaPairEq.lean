/-
  Pairs and changes held against each other.
-/
import Derived.Test.YtnhipiafnijdnaaMapOkI
import Derived.Test.YtnhipiafnijdnaaChg
import Derived.Laws.StructEq
namespace Go.Proofs.Ytnhipiafnijdnaa
open Go.RowKit

theorem pairFields : Try.prog.underlying 60 = some (.struct (Try.prog.fieldsOf 60)) := by kernel_rfl
theorem pairHeld : Try.prog.stoodInHeld 60 = false := by kernel_rfl
theorem pairGuard : Try.prog.eqGuardType Try.prog.depth 60 = false := by kernel_rfl
theorem neqPair (p q : BB) (w : World) :
    (binOp .neq 60 (.agg #[.string p.1, .string p.2]) (.agg #[.string q.1, .string q.2])).run Try.prog w = .ok (.bool (!decide (p = q))) w := by
  have u9 := Try.underlying9
  have a9 := Try.isAgg9
  have z9 := Try.sizeOf9
  rw [run_neq_struct, show (10000 : Nat) = 9999 + 1 from rfl, run_equalIn_agg w 9999 60 _ _ pairFields pairHeld]
  simp only [Program.fieldsOf, Try.underlying60]
  by_cases h1 : p.1 = q.1
  · by_cases h2 : p.2 = q.2
    · have g1 := eqS_true h1
      have g2 := eqS_true h2
      have e : decide (p = q) = true := by simp [Prod.ext_iff, h1, h2]
      rw [e]
      clear h1 h2 e
      go_simp
    · have g1 := eqS_true h1
      have g2 := eqS_false h2
      have e : decide (p = q) = false := by simp [Prod.ext_iff, h2]
      rw [e]
      clear h1 h2 e
      go_simp
  · have g1 := eqS_false h1
    have e : decide (p = q) = false := by simp [Prod.ext_iff, h1]
    rw [e]
    clear h1 e
    go_simp

theorem eqlPair (p q : BB) (w : World) :
    (binOp .eql 60 (.agg #[.string p.1, .string p.2]) (.agg #[.string q.1, .string q.2])).run Try.prog w = .ok (.bool (decide (p = q))) w := by
  have u9 := Try.underlying9
  have a9 := Try.isAgg9
  have z9 := Try.sizeOf9
  rw [run_eql_struct, show (10000 : Nat) = 9999 + 1 from rfl, run_equalIn_agg w 9999 60 _ _ pairFields pairHeld]
  simp only [Program.fieldsOf, Try.underlying60]
  by_cases h1 : p.1 = q.1
  · by_cases h2 : p.2 = q.2
    · have g1 := eqS_true h1
      have g2 := eqS_true h2
      have e : decide (p = q) = true := by simp [Prod.ext_iff, h1, h2]
      rw [e]
      clear h1 h2 e
      go_simp
    · have g1 := eqS_true h1
      have g2 := eqS_false h2
      have e : decide (p = q) = false := by simp [Prod.ext_iff, h2]
      rw [e]
      clear h1 h2 e
      go_simp
  · have g1 := eqS_false h1
    have e : decide (p = q) = false := by simp [Prod.ext_iff, h1]
    rw [e]
    clear h1 e
    go_simp


end Go.Proofs.Ytnhipiafnijdnaa
