/- The parts Ti of the proof, joined. It holds without conditions of its own. -/
import Derived.Test.YtpdhdgdbknnllaaGreatDoorFX9
import Derived.Test.YtpdhdgdbknnllaaGreatDoorFX10
set_option maxRecDepth 100000
set_option maxHeartbeats 20000000
namespace Go.Proofs.YtpdhdgdbknnllaaGreatDoor

end Go.Proofs.YtpdhdgdbknnllaaGreatDoor
