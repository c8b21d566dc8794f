/-
  The contracts of the functions of package cache, together: check_any, new_any, load_any, view_any, store_any, flush_any, fence_any.
-/
import Derived.Test.YtekgjnbijopieaaLoad
import Derived.Test.YtekgjnbijopieaaStore
import Derived.Test.YtekgjnbijopieaaFlush
import Derived.Test.YtekgjnbijopieaaFence
import Derived.Test.YtekgjnbijopieaaCrefc
import Derived.Test.YtekgjnbijopieaaCrefd
