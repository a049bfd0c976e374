/-
  What the laws of bodies stand on.
-/
import Derived.Test.YtjpccaeojimlfaaDecJ
import Derived.Test.YtjpccaeojimlfaaFirst
import Derived.Test.YtjpccaeojimlfaaSl
