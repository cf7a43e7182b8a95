/-
  The reference's PutText writes a text's length and its bytes, in new memory.
  The text has at most 1,000,000 bytes.
-/
import Derived.Test.YtoekiencnbgmhaaRePut
import Derived.Test.YtoekiencnbgmhaaWBytes
import Derived.Lib.AppendStr
set_option linter.unusedSimpArgs false
set_option linter.unusedVariables false
namespace Go.Proofs.Ytoekiencnbgmhaa
open Go.RowKit
set_option maxRecDepth 100000

theorem strCells_bytes (s : ByteArray) : Lib.strCells s = Lib.byteCells s.data.toList := rfl
end Go.Proofs.Ytoekiencnbgmhaa
