/-
  THE MEMORY's accesses, all three: for the seats whose desks store, too.
-/
import Derived.Test.YtpckcfdjgpdooaaMemAcc
