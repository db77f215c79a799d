/- The plain mathematics of sets, together. -/
import Derived.Test.YtafaddfmbknpgaaDoorMath
import Derived.Test.YtafaddfmbknpgaaDoorRefMath
import Derived.Test.YtafaddfmbknpgaaDoorUnionMath
