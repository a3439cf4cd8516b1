/-
  The nine contracts of package message together. No statement is proved here.
-/
import Derived.Test.YtaolhndbpgjlcaaMsPEnc
import Derived.Test.YtaolhndbpgjlcaaMsPEncT
import Derived.Test.YtaolhndbpgjlcaaMsPDec
import Derived.Test.YtaolhndbpgjlcaaMsPDecT
