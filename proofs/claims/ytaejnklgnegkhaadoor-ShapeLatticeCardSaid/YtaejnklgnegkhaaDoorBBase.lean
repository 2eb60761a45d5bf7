/- What the laws of the shapes stand on. -/
import Derived.Test.YtaejnklgnegkhaaDoorBBase18
namespace Go.Proofs.YtaejnklgnegkhaaDoor
end Go.Proofs.YtaejnklgnegkhaaDoor
