/- What is drawn as a number: word, near, off of the reader. -/
import Derived.Test.YtdlkafpemongmaaDraws
import Derived.Laws.Closers25b
namespace Go.Proofs.Ytdlkafpemongmaa
open Go.RowKit
theorem grown_on {a b c : World} {g : Nat} (h1 : a.grownBy b (some g)) (h2 : b.grownBy c (some g)) : a.grownBy c (some g) :=
  ⟨h2.os.trans h1.os, h2.tape.trans h1.tape, h2.output.trans h1.output, Nat.le_trans h1.size h2.size, fun b q e => (h2.block b (Nat.lt_of_lt_of_le q h1.size) e).trans (h1.block b q e)⟩
end Go.Proofs.Ytdlkafpemongmaa
