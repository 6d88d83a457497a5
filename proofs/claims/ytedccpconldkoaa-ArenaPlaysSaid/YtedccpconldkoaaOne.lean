/- ArenaPlays: one call of both sides, whatever it is. Condition: few calls were made. -/
import Derived.Test.YtedccpconldkoaaOnc
import Derived.Test.YtedccpconldkoaaOnd
namespace Go.Proofs.Ytedccpconldkoaa
open Go.RowKit
set_option linter.unusedVariables false
theorem one_any {X : Nat → Prop} {w0 w : World} {B a c M d : Nat} {P Q : Nat → Nat} {wh : Nat → Int} {keep : Bool} {g : Nat → Bool} {lv lm : Value} {s : St} {k : Nat} (h : Duo X w0 w B a c M d P Q wh keep g g lv lm s s) (hk : k < 3) (hb : Bd s) (pn kk at' want put : Int) :
    Calls Try.prog 8 #[.pointer (some ⟨a, 0, none⟩), .pointer (some ⟨P k, 0, none⟩), .pointer (some ⟨M, 0, none⟩), .pointer (some ⟨Q k, 0, none⟩), .agg #[.int .i64 pn, .int .i64 kk, .int .i64 at', .int .u64 want, .int .u64 put]] w (OnePost X w0 B a c M d P Q wh keep s) := by
  by_cases h1 : kk = 1
  · subst h1; exact one_1 h hk hb pn at' want put
  by_cases h2 : kk = 2
  · subst h2; exact one_2 h hk hb pn at' want put
  by_cases h3 : kk = 3
  · subst h3; exact one_3 h hk hb pn at' want put
  by_cases h4 : kk = 4
  · subst h4; exact one_4 h hk hb pn at' want put
  by_cases h5 : kk = 5
  · subst h5; exact one_5 h hk hb pn at' want put
  by_cases h6 : kk = 6
  · subst h6; exact one_6 h hk hb pn at' want put
  by_cases h7 : kk = 7
  · subst h7; exact one_7 h hk hb pn at' want put
  by_cases h8 : kk = 8
  · subst h8; exact one_8 h hk hb pn at' want put
  by_cases h9 : kk = 9
  · subst h9; exact one_9 h hk hb pn at' want put
  exact one_o h hk hb pn kk at' want put h1 h2 h3 h4 h5 h6 h7 h8 h9
end Go.Proofs.Ytedccpconldkoaa
