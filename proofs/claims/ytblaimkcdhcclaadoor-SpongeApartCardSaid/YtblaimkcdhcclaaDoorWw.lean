/- The contracts of the program's functions. -/
import Derived.Test.YtblaimkcdhcclaaDoorWn
import Derived.Test.YtblaimkcdhcclaaDoorVb
namespace Go.Proofs.YtblaimkcdhcclaaDoor
open Go.RowKit Oz
theorem pPermute_ok : PermOK := fun s n w ht => pPermute_any s n w ht
theorem pStream_ok : StrmOK := fun s n w ht hs hn => pStream_any s n hs hn w ht
theorem pDigest_ok : DigOK := fun s w ht hs => pDigest_any s hs w ht
theorem pShort_ok : ShrtOK := fun s w ht hs => pShort_any s hs w ht
theorem pList_ok : ListOK := fun d n v S w ht hd hv hsz => pList_any d n v S w hd hv hsz ht
end Go.Proofs.YtblaimkcdhcclaaDoor
