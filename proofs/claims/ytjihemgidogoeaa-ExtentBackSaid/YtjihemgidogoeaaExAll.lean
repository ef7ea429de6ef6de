/- extent: what its laws' proofs import. -/
import Derived.Test.YtjihemgidogoeaaEyZ
import Derived.Test.YtjihemgidogoeaaExF
import Derived.Test.YtjihemgidogoeaaExG
import Derived.Test.YtjihemgidogoeaaExC
import Derived.Test.YtjihemgidogoeaaExB
