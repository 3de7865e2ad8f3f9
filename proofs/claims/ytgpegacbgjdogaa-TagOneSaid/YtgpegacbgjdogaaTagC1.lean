/- Package tag: the three contracts (May: TagC0, Encode: TagC2, Decode: TagC3). -/
import Derived.Test.YtgpegacbgjdogaaTagC3
namespace Go.Proofs.Ytgpegacbgjdogaa
theorem tag_contracts : True := trivial
end Go.Proofs.Ytgpegacbgjdogaa
