/- Layer 9 (calendar): ofDay; Length, Offset, Total. -/
import Derived.Test.YtjdpdabafbbfaaaDoorDt
namespace Go.Proofs.YtjdpdabafbbfaaaDoor.Cal
open Go Go.RowKit
end Go.Proofs.YtjdpdabafbbfaaaDoor.Cal
