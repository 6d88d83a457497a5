/- The walk of the law LayoutApart, as the frame takes it: it returns true, whatever it is given. No condition but that each number fits its kind. -/
import Derived.Test.YtahppkdbaagcgaaApart
namespace Go.Proofs.Ytahppkdbaagcgaa
open Go.RowKit
theorem apart_law (pg th rg a0 b0 : Int) (w : World) (_h1 : (Lit.int .i64 pg).wf = true) (_h2 : (Lit.int .i64 th).wf = true) (_h3 : (Lit.int .i64 rg).wf = true) (_h4 : (Lit.int .i64 a0).wf = true) (_h5 : (Lit.int .i64 b0).wf = true) :
    Calls Try.prog 3 #[.agg #[.int .i64 pg, .int .i64 th, .int .i64 rg, .int .i64 a0, .int .i64 b0]] w fun e w' => e = .returned (.bool true) ∧ Below w.heap.size w w' := apart_walk pg th rg a0 b0 w
end Go.Proofs.Ytahppkdbaagcgaa
