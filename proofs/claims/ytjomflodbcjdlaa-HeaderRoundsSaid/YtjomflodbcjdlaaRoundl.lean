/- The walk of the law HeaderRounds: it returns true, whatever it is given. No condition. -/
import Derived.Test.YtjomflodbcjdlaaRoundu
import Derived.Test.YtjomflodbcjdlaaRoundv
import Derived.Test.YtjomflodbcjdlaaRoundw
namespace Go.Proofs.Ytjomflodbcjdlaa
open Go.RowKit
set_option linter.unusedVariables false
theorem rounds_law (k c s o y o' cy ot : Int) (w : World) (w0 : (Lit.int .i64 k).wf = true) (w1 : (Lit.int .i64 c).wf = true) (w2 : (Lit.int .i64 s).wf = true) (w3 : (Lit.int .i64 o).wf = true) (w4 : (Lit.int .i64 y).wf = true) (w5 : (Lit.int .i64 o').wf = true) (w6 : (Lit.int .i64 cy).wf = true) (w7 : (Lit.int .i64 ot).wf = true) :
    Calls Try.prog 8 #[.agg #[.int .i64 k, .int .i64 c, .int .i64 s, .int .i64 o, .int .i64 y, .int .i64 o', .int .i64 cy, .int .i64 ot]] w fun e w' => e = .returned (.bool true) ∧ Below w.heap.size w w' := by
  cases h : entB k c s o y with
  | false => exact rounds_a k c s o y o' cy ot w h
  | true =>
    cases h2 : entB k c 2 o' y with
    | false => exact rounds_b k c s o y o' cy ot w h h2
    | true =>
      cases h3 : entB k c 0 0 cy with
      | false => exact rounds_c k c s o y o' cy ot w h h2 h3
      | true =>
        cases h4 : (k == 1) <;> cases h5 : decide (cy < ot)
        · exact rounds_ff k c s o y o' cy ot w h h2 h3 h4 h5
        · exact rounds_ft k c s o y o' cy ot w h h2 h3 h4 h5
        · exact rounds_tf k c s o y o' cy ot w h h2 h3 h4 h5
        · exact rounds_tt k c s o y o' cy ot w h h2 h3 h4 h5
end Go.Proofs.Ytjomflodbcjdlaa
