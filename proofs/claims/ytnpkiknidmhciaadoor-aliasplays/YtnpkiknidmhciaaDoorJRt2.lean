/-
  The document's layer 10: shared filters; the law's same. (No statement: contracts that the proofs of the statements use.)
-/
import Derived.Test.YtnpkiknidmhciaaDoorJRt1
import Derived.BigRegion
namespace Go.Proofs.YtnpkiknidmhciaaDoor
open Go.RowKit Go.Lib

end Go.Proofs.YtnpkiknidmhciaaDoor
