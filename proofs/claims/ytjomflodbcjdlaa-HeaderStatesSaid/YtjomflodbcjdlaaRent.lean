/- What the document's functions on entries return. No condition but that each number fits its kind. -/
import Derived.Test.YtjomflodbcjdlaaRenta
import Derived.Test.YtjomflodbcjdlaaRentc
namespace Go.Proofs.Ytjomflodbcjdlaa
open Go.RowKit
set_option linter.unusedVariables false
set_option linter.unusedSimpArgs false

theorem isEnt_any (k c s o y : Int) (w : World) :
    Calls Try.prog 40 #[.agg #[.int .i64 k, .int .i64 c, .int .i64 s, .int .i64 o, .int .i64 y]] w fun e w' => e = .returned (.bool (entB k c s o y)) ∧ Below w.heap.size w w' := by
  by_cases k0 : k = 0
  · subst k0; exact isEnt_0 c s o y w
  by_cases k1 : k = 1
  · subst k1
    by_cases s0 : s = 0
    · subst s0; exact isEnt_10 c o y w
    by_cases s1 : s = 1
    · subst s1; exact isEnt_11 c o y w
    by_cases s2 : s = 2
    · subst s2; exact isEnt_12 c o y w
    exact isEnt_1x c s o y w s0 s1 s2
  by_cases k2 : k = 2
  · subst k2
    by_cases s0 : s = 0
    · subst s0; exact isEnt_20 c o y w
    by_cases s1 : s = 1
    · subst s1; exact isEnt_21 c o y w
    by_cases s2 : s = 2
    · subst s2; exact isEnt_22 c o y w
    exact isEnt_2x c s o y w s0 s1 s2
  by_cases k3 : k = 3
  · subst k3; exact isEnt_3 c s o y w
  by_cases hk : k < 0
  · exact isEnt_lo k c s o y w hk
  · exact isEnt_hi k c s o y w (by omega)
end Go.Proofs.Ytjomflodbcjdlaa
