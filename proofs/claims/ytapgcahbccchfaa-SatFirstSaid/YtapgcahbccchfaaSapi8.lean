/- Package sat keeps what the walks of layer 8 ask of it. -/
import Derived.Test.YtapgcahbccchfaaZfl
import Derived.Test.YtapgcahbccchfaaSApi
namespace Go.Proofs.Ytapgcahbccchfaa
theorem theApi : SApi where
  right_ := fun hv hl _ => p_right hv (by omega)
  check_ := fun hv hl _ hu hvs => p_check hv (by omega) hu hvs
  refute_ := fun hv hl _ hu hcy => p_refute hv (by omega) hu (by omega)
  follows_ := fun hv hl _ hu hx => p_follows hv hl hu hx
  solve_ := fun hv hl _ => p_solve hv (by omega)
  forced_ := fun hv hl _ => p_forced hv (by omega)
end Go.Proofs.Ytapgcahbccchfaa
