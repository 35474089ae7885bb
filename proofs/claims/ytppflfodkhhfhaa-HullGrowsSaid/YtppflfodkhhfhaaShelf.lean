/-
  The library's own contracts of math/bits.LeadingZeros64, Len64 and Mul64, laid at this translation: each returns just the number that is said and leaves the world as it is.
  Conditions: the arguments are 64-bit words.
-/
import Derived.Shelf.Small.Bits
import Derived.Shelf.Strconv.Itoa0
import Derived.Shelf.Bits.Mul64
import Derived.Test.YtppflfodkhhfhaaProg
namespace Go.Proofs.Ytppflfodkhhfhaa
open Go.Shelf
end Go.Proofs.Ytppflfodkhhfhaa
