/-
  Package model by its contracts (a seat without Part and Same).
-/
import Derived.Test.YtegbcocbopgghacMdRef
import Derived.Test.YtegbcocbopgghacMpMay
import Derived.Test.YtegbcocbopgghacMpObj
import Derived.Test.YtegbcocbopgghacMpDoAny
