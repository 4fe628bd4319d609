/- The program's functions of package gamut: all of them. -/
import Derived.Test.YtaldbjhalpgkeaaDoorGSolP
import Derived.Test.YtaldbjhalpgkeaaDoorGMutP
import Derived.Test.YtaldbjhalpgkeaaDoorGNameB
