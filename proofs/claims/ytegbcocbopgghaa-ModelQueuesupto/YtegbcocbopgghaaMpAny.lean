/-
  Package model by its contracts.
-/
import Derived.Test.YtegbcocbopgghaaMdRef
import Derived.Test.YtegbcocbopgghaaMpMay
import Derived.Test.YtegbcocbopgghaaMpSame
import Derived.Test.YtegbcocbopgghaaMpObj
import Derived.Test.YtegbcocbopgghaaMpPart
import Derived.Test.YtegbcocbopgghaaMpDoAny
