/-
  My own text: what texts of identifiers lean on.
-/
import Derived.Test.YtbpdjjihimplaaaDoorC5
