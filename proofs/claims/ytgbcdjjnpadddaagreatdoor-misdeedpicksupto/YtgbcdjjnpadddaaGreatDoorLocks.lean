/- The numbers under which the program holds the lock's functions and types. -/
import Derived.Test.YtgbcdjjnpadddaaGreatDoorRows
import Derived.Conc.MuLone
import Derived.KernelRfl
namespace Go.Proofs.YtgbcdjjnpadddaaGreatDoor
abbrev muLink : Go.Conc.Locks.MuLink := { lock := 49, unlock := 50, ilock := 78, iunlock := 79, lockSlow := 102, unlockSlow := 105, disable := 98, enable := 100, acquire := 101, relMerge := 103, cas32 := 99, add32 := 104, tMutex := 133, tIMutex := 131, tPMutex := 173, tPIMutex := 196, tPI32 := 198, tUP := 200, tNoCopy := 128, tU32 := 129 }
theorem muLib : Go.Conc.Locks.MuLib Tryz.prog muLink :=
  ⟨Tryz.func49, Tryz.func50, Tryz.func78, Tryz.func79, Tryz.func98, Tryz.func100, Tryz.func101, Tryz.func103, Tryz.func99, Tryz.func104, Tryz.underlying131, Tryz.runUnderlying131, Tryz.sizeOf131, Tryz.isAgg131, Tryz.zeroValue131, Tryz.underlying133, Tryz.runUnderlying133, Tryz.sizeOf133, Tryz.isAgg133, Tryz.zeroValue133, Tryz.underlying173, Tryz.runUnderlying173, Tryz.sizeOf173, Tryz.isAgg173, Tryz.zeroValue173, Tryz.underlying196, Tryz.runUnderlying196, Tryz.sizeOf196, Tryz.isAgg196, Tryz.zeroValue196, Tryz.underlying198, Tryz.runUnderlying198, Tryz.sizeOf198, Tryz.isAgg198, Tryz.zeroValue198, Tryz.underlying200, Tryz.runUnderlying200, Tryz.sizeOf200, Tryz.isAgg200, Tryz.zeroValue200, Tryz.underlying128, Tryz.runUnderlying128, Tryz.sizeOf128, Tryz.isAgg128, Tryz.zeroValue128, Tryz.underlying21, Tryz.runUnderlying21, Tryz.sizeOf21, Tryz.isAgg21, Tryz.zeroValue21, (by kernel_rfl)⟩
end Go.Proofs.YtgbcdjjnpadddaaGreatDoor
