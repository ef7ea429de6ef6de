/- dev: all that its laws' proofs import. -/
import Derived.Test.YtinmkcbmnikpfaaDyZ
import Derived.Test.YtinmkcbmnikpfaaDvO
import Derived.Test.YtinmkcbmnikpfaaDvT
import Derived.Test.YtinmkcbmnikpfaaDvF
import Derived.Test.YtinmkcbmnikpfaaDvK
import Derived.Test.YtinmkcbmnikpfaaBools
