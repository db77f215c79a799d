/- The plain mathematics of sets, together. -/
import Derived.Test.YtkphbjppmiefkaaDoorMath
import Derived.Test.YtkphbjppmiefkaaDoorRefMath
import Derived.Test.YtkphbjppmiefkaaDoorUnionMath
