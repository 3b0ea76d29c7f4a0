/- The reference of layer 2: Valid. -/
import Derived.Test.YtibciljoanicfaaRRef7
namespace Go.Proofs.Ytibciljoanicfaa
set_option linter.unusedVariables false
open Go.RowKit Go.Shelf

end Go.Proofs.Ytibciljoanicfaa
