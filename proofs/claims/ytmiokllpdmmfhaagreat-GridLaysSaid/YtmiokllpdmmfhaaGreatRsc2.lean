/-
  The scale of a group (Scale), by the specification, with its errors.
-/
import Derived.Test.YtmiokllpdmmfhaaGreatRscl
import Derived.Test.YtmiokllpdmmfhaaGreatLcB
namespace Go.Proofs.YtmiokllpdmmfhaaGreat
open Go.RowKit
theorem rscale_any (L : Lm) (way len : Int) (A : Option Addr) (cap : Nat) (zs : List Nd) (i : Nat) (u : Nd) (w : World) (hl : LmOk w L) (hn : NdsAt w A zs) (hp : Pln L.li zs) (hc1 : zs.length ≤ cap) (hc : cap ≤ maxLen) (hu : zs[i]? = some u) :
    Calls Tryz.prog 61 #[.agg #[.int .i64 L.per, .slice L.A L.ms.length L.cap], .agg #[.slice A zs.length cap], .agg #[.int .i64 way, .int .i64 len], .int .i64 i] w (GotF2 (sclR (cwN way) (shpI L.li (cwN way) zs 5 i)) w) := by
  cases hR : decide (way ≤ 2) <;> cases hG : (u.kind == 5)
  · exact rscaleCN_any L way len A cap zs i u w hl hn hp hc1 hc hu hR hG
  · exact rscaleCG_any L way len A cap zs i u w hl hn hp hc1 hc hu hR hG
  · exact rscaleRN_any L way len A cap zs i u w hl hn hp hc1 hc hu hR hG
  · exact rscaleRG_any L way len A cap zs i u w hl hn hp hc1 hc hu hR hG
end Go.Proofs.YtmiokllpdmmfhaaGreat
