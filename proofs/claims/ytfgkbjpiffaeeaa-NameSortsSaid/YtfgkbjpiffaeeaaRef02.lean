/-
  Contracts of the document's answers 02: the functions of numbers and of one text.
-/
import Derived.Test.YtfgkbjpiffaeeaaRows
import Derived.Test.YtfgkbjpiffaeeaaMixA
import Derived.BigQuiet
import Derived.Deep.QuietTactic
namespace Go.Proofs.Ytfgkbjpiffaeeaa
open Go.RowKit






end Go.Proofs.Ytfgkbjpiffaeeaa
