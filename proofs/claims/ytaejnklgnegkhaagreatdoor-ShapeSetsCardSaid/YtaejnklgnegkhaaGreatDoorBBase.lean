/- What the laws of the shapes stand on. -/
import Derived.Test.YtaejnklgnegkhaaGreatDoorBBase16
namespace Go.Proofs.YtaejnklgnegkhaaGreatDoor
end Go.Proofs.YtaejnklgnegkhaaGreatDoor
