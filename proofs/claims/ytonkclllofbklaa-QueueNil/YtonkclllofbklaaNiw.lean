/- The law of nil queues in the frame's form. -/
import Derived.Test.YtonkclllofbklaaNil
namespace Go.Proofs.Ytonkclllofbklaa
set_option linter.unusedVariables false
theorem nilW (k : Int) (hk : (Lit.int .i64 k).wf = true) (t : Int) (ht : (Lit.int .i64 t).wf = true) (w : World) : Calls Try.prog 6 #[.int .i64 k, .int .i64 t] w fun e w' => e = .returned (.bool true) ∧ Touch [] w w' := law6 k t w
end Go.Proofs.Ytonkclllofbklaa
