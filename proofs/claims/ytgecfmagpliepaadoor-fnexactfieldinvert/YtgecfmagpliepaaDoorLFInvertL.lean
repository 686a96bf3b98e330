/-
  The law of FieldInvert, with what the variables give.
-/
import Derived.Test.YtgecfmagpliepaaDoorLFInvert
import Derived.Test.YtgecfmagpliepaaDoorLaidI
