/-
  A region that draws its order: whole arrays are loaded first, then what calls, then what stores: laws for a walk by hand.
-/
import Derived.Test.YtnlckmopgkabpaaGs1
import Derived.OrdersHeld
namespace Go.Proofs.Ytnlckmopgkabpaa
open Go Go.RowKit

section
variable {P : Program} {ops : Array Oper} {Q : Exit → Act → World → Prop} {md : Region.Mode} {S : World → Prop} {fuel : Nat} {listed : Array Bool} {a : Act} {w : World}

end
end Go.Proofs.Ytnlckmopgkabpaa
