/- The records of this package as owners of their memory, and their marks: plain facts. -/
import Derived.Test.YtldecaccionigabOwn
import Derived.Test.YtldecaccionigabStRecs
import Derived.Test.YtldecaccionigabMarks
namespace Go.Proofs.Ytldecaccionigab
open Go.RowKit
def cntI (_ : Int) : Nat := 1
def mkI (_ : Int) (m : Int) : Int := m
end Go.Proofs.Ytldecaccionigab
