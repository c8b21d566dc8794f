/-
  The contracts of the functions of package cache, together: check_any, new_any, load_any, view_any, store_any, flush_any, fence_any.
-/
import Derived.Test.YtkjhpjgdcjccjaaDoorLoad
import Derived.Test.YtkjhpjgdcjccjaaDoorStore
import Derived.Test.YtkjhpjgdcjccjaaDoorFlush
import Derived.Test.YtkjhpjgdcjccjaaDoorFence
import Derived.Test.YtkjhpjgdcjccjaaDoorCrefc
import Derived.Test.YtkjhpjgdcjccjaaDoorCrefd
