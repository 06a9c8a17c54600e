/- The document's own Get and Cut answer what Get and Cut answer, for whatever they are handed. -/
import Derived.Test.YtkbelhclcpepaaaRefGen
namespace Go.Proofs.Ytkbelhclcpepaaa
open Go.RowKit

end Go.Proofs.Ytkbelhclcpepaaa
