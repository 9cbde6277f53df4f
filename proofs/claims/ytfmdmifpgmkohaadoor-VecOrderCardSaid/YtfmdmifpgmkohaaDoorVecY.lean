/-
  The walk of the law VecOrder, as its row asks it.
  Conditions: the library's own table of powers of ten holds what its text says.
-/
import Derived.Test.YtfmdmifpgmkohaaDoorVecX
namespace Go.Proofs.YtfmdmifpgmkohaaDoor
open Go.RowKit

theorem vecOrder_walk (a b c : Nat → Int) (w : World) (ht : Tab w) (_ : ∀ i, i < 8 → (Lit.int .u32 (a i)).wf = true) (_ : ∀ i, i < 8 → (Lit.int .u32 (b i)).wf = true) (_ : ∀ i, i < 8 → (Lit.int .u32 (c i)).wf = true) :
    Calls Tryd.prog 4 #[.agg #[.int .u32 (a 0), .int .u32 (a 1), .int .u32 (a 2), .int .u32 (a 3), .int .u32 (a 4), .int .u32 (a 5), .int .u32 (a 6), .int .u32 (a 7)], .agg #[.int .u32 (b 0), .int .u32 (b 1), .int .u32 (b 2), .int .u32 (b 3), .int .u32 (b 4), .int .u32 (b 5), .int .u32 (b 6), .int .u32 (b 7)], .agg #[.int .u32 (c 0), .int .u32 (c 1), .int .u32 (c 2), .int .u32 (c 3), .int .u32 (c 4), .int .u32 (c 5), .int .u32 (c 6), .int .u32 (c 7)]] w fun e w' => e = .returned (.bool true) ∧ Below w.heap.size w w' :=
  vecOrder_walk0 a b c w ht
end Go.Proofs.YtfmdmifpgmkohaaDoor
