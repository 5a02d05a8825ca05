/-
  Package model by its contracts.
-/
import Derived.Test.YtegbcocbopgghabMdRef
import Derived.Test.YtegbcocbopgghabMpMay
import Derived.Test.YtegbcocbopgghabMpSame
import Derived.Test.YtegbcocbopgghabMpObj
import Derived.Test.YtegbcocbopgghabMpPart
import Derived.Test.YtegbcocbopgghabMpDoAny
