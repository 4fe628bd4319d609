/- The program's contracts, as the laws' texts use them. -/
import Derived.Test.YteomimeagloofaaDoorCProgH
