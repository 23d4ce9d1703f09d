/- The records of this package as owners of their memory, and their marks: plain facts. -/
import Derived.Test.YtpmmekfgcapdgaaOwn
import Derived.Test.YtpmmekfgcapdgaaMarks
namespace Go.Proofs.Ytpmmekfgcapdgaa
open Go.RowKit
def cntI (_ : Int) : Nat := 1
def mkI (_ : Int) (m : Int) : Int := m
end Go.Proofs.Ytpmmekfgcapdgaa
