/- What spec.Decode answers. Condition: a text of at most 2^40 bytes. -/
import Derived.Test.YtdpjdjkfedcojaaGreatBaseA
import Derived.Test.YtdpjdjkfedcojaaGreatSpecRows
import Derived.Test.YtdpjdjkfedcojaaGreatFmtA
import Derived.Test.YtdpjdjkfedcojaaGreatSpecEnc
namespace Go.Proofs.YtdpjdjkfedcojaaGreat
open Go.RowKit
set_option linter.unusedVariables false
set_option linter.unusedSimpArgs false

theorem own_set {w : World} {base b : Nat} {v : Value} {s : St} (h : OwnN w (base + 1) v s) (hb : b ≤ base) (x y : Value) : OwnN ((w.setCell ⟨b, 0, none⟩ x).setCell ⟨b, 1, none⟩ y) base v s :=
  (h.kept ((grown_set w ⟨b, 0, none⟩ x).trans (grown_set _ ⟨b, 1, none⟩ y)) (show b < base + 1 by omega)).base (by omega)
end Go.Proofs.YtdpjdjkfedcojaaGreat
