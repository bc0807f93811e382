/-
  Nothing is opened here.
-/
import Derived.Test.YtlpjmfmalejlpaaRows
import Derived.Test.YtlpjmfmalejlpaaArr
namespace Go.Proofs.Ytlpjmfmalejlpaa
namespace OpenD
theorem nothing : True := trivial
end OpenD
end Go.Proofs.Ytlpjmfmalejlpaa
