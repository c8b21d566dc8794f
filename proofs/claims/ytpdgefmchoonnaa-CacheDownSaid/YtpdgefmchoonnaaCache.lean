/-
  The contracts of the functions of package cache, together: check_any, new_any, load_any, view_any, store_any, flush_any, fence_any.
-/
import Derived.Test.YtpdgefmchoonnaaLoad
import Derived.Test.YtpdgefmchoonnaaStore
import Derived.Test.YtpdgefmchoonnaaFlush
import Derived.Test.YtpdgefmchoonnaaFence
import Derived.Test.YtpdgefmchoonnaaCrefc
import Derived.Test.YtpdgefmchoonnaaCrefd
