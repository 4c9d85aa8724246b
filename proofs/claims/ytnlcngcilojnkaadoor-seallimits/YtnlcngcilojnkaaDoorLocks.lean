/- The numbers under which the program holds the lock's functions and types. -/
import Derived.Test.YtnlcngcilojnkaaDoorRows
import Derived.Conc.MuLone
import Derived.KernelRfl
namespace Go.Proofs.YtnlcngcilojnkaaDoor
abbrev muLink : Go.Conc.Locks.MuLink := { lock := 26, unlock := 27, ilock := 37, iunlock := 38, lockSlow := 49, unlockSlow := 52, disable := 45, enable := 47, acquire := 48, relMerge := 50, cas32 := 46, add32 := 51, tMutex := 53, tIMutex := 51, tPMutex := 97, tPIMutex := 108, tPI32 := 110, tUP := 112, tNoCopy := 48, tU32 := 49 }
theorem muLib : Go.Conc.Locks.MuLib Tryd.prog muLink :=
  ⟨Tryd.func26, Tryd.func27, Tryd.func37, Tryd.func38, Tryd.func45, Tryd.func47, Tryd.func48, Tryd.func50, Tryd.func46, Tryd.func51, Tryd.underlying51, Tryd.runUnderlying51, Tryd.sizeOf51, Tryd.isAgg51, Tryd.zeroValue51, Tryd.underlying53, Tryd.runUnderlying53, Tryd.sizeOf53, Tryd.isAgg53, Tryd.zeroValue53, Tryd.underlying97, Tryd.runUnderlying97, Tryd.sizeOf97, Tryd.isAgg97, Tryd.zeroValue97, Tryd.underlying108, Tryd.runUnderlying108, Tryd.sizeOf108, Tryd.isAgg108, Tryd.zeroValue108, Tryd.underlying110, Tryd.runUnderlying110, Tryd.sizeOf110, Tryd.isAgg110, Tryd.zeroValue110, Tryd.underlying112, Tryd.runUnderlying112, Tryd.sizeOf112, Tryd.isAgg112, Tryd.zeroValue112, Tryd.underlying48, Tryd.runUnderlying48, Tryd.sizeOf48, Tryd.isAgg48, Tryd.zeroValue48, Tryd.underlying21, Tryd.runUnderlying21, Tryd.sizeOf21, Tryd.isAgg21, Tryd.zeroValue21, (by kernel_rfl)⟩
end Go.Proofs.YtnlcngcilojnkaaDoor
