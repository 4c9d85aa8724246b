/- The numbers under which the program holds the lock's functions and types. -/
import Derived.Test.YtnlcngcilojnkabDoorRows
import Derived.Conc.MuLone
import Derived.KernelRfl
namespace Go.Proofs.YtnlcngcilojnkabDoor
abbrev muLink : Go.Conc.Locks.MuLink := { lock := 32, unlock := 33, ilock := 49, iunlock := 50, lockSlow := 61, unlockSlow := 64, disable := 57, enable := 59, acquire := 60, relMerge := 62, cas32 := 58, add32 := 63, tMutex := 71, tIMutex := 69, tPMutex := 105, tPIMutex := 113, tPI32 := 115, tUP := 117, tNoCopy := 66, tU32 := 67 }
theorem muLib : Go.Conc.Locks.MuLib Tryd.prog muLink :=
  ⟨Tryd.func32, Tryd.func33, Tryd.func49, Tryd.func50, Tryd.func57, Tryd.func59, Tryd.func60, Tryd.func62, Tryd.func58, Tryd.func63, Tryd.underlying69, Tryd.runUnderlying69, Tryd.sizeOf69, Tryd.isAgg69, Tryd.zeroValue69, Tryd.underlying71, Tryd.runUnderlying71, Tryd.sizeOf71, Tryd.isAgg71, Tryd.zeroValue71, Tryd.underlying105, Tryd.runUnderlying105, Tryd.sizeOf105, Tryd.isAgg105, Tryd.zeroValue105, Tryd.underlying113, Tryd.runUnderlying113, Tryd.sizeOf113, Tryd.isAgg113, Tryd.zeroValue113, Tryd.underlying115, Tryd.runUnderlying115, Tryd.sizeOf115, Tryd.isAgg115, Tryd.zeroValue115, Tryd.underlying117, Tryd.runUnderlying117, Tryd.sizeOf117, Tryd.isAgg117, Tryd.zeroValue117, Tryd.underlying66, Tryd.runUnderlying66, Tryd.sizeOf66, Tryd.isAgg66, Tryd.zeroValue66, Tryd.underlying21, Tryd.runUnderlying21, Tryd.sizeOf21, Tryd.isAgg21, Tryd.zeroValue21, (by kernel_rfl)⟩
end Go.Proofs.YtnlcngcilojnkabDoor
