/- Walks over the document's answer of layer 17: what may be, a certificate's bytes. No condition but those written. -/
import Derived.Test.YtbahilakfgbgpaaDoorCeMem
import Derived.Test.YtbahilakfgbgpaaDoorOb2
import Derived.Test.YtbahilakfgbgpaaDoorCkRef
import Derived.WalkSpells
import Derived.WalkKit
namespace Go.Proofs.YtbahilakfgbgpaaDoor
open Go.RowKit

namespace Ce
end Ce
end Go.Proofs.YtbahilakfgbgpaaDoor
