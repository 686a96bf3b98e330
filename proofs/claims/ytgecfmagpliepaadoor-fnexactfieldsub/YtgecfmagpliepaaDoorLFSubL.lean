/-
  The law of FieldSub, with what the variables give.
-/
import Derived.Test.YtgecfmagpliepaaDoorLFSub
import Derived.Test.YtgecfmagpliepaaDoorLaidV
