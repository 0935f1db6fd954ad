/-
  almonerlaw10.PathsBack: whole.
-/
import Derived.Test.YtppfdpnplemfkaaDoorWBackZero
import Derived.Test.YtppfdpnplemfkaaDoorWBackSome
namespace Go.Proofs.YtppfdpnplemfkaaDoor
open Go.RowKit

theorem pathsBack_law (w : World) (hk : Knows w) (hs : Starts w) {A : Option Addr} {n c z : Nat} {ys s : List Nat} (cm : CameS w A n c ys) (hz : z < 256) (hsl : s.length = 32) (hsb : ∀ x ∈ s, x < 256) :
    Calls Tryd.prog 3 #[.slice A n c, .int .u8 (z : Int), .agg (bvs s).toArray] w fun e w' => e = .returned (.bool true) ∧ Below w.heap.size w w' := by
  by_cases h : n = 0 ∨ 150 < n
  · exact back_else hk hs h
  · by_cases hd : dep (z % n) n = 0
    · exact back_zero hk hs cm hz hsl hsb (by omega) (by omega) hd
    · exact back_some hk hs cm hz hsl hsb (by omega) (by omega) (by omega)

end Go.Proofs.YtppfdpnplemfkaaDoor
