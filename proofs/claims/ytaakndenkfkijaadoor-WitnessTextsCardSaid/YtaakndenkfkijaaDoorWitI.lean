/- strconv.Itoa by the shelf's contract. -/
import Derived.Test.YtaakndenkfkijaaDoorRows
import Derived.Test.YtaakndenkfkijaaDoorNumP
import Derived.Test.YtaakndenkfkijaaDoorShelf
namespace Go.Proofs.YtaakndenkfkijaaDoor
open Go.RowKit Go.Lib Go.Joins Go.Sort
theorem itoa_a (n : Int) (w : World) (h0 : -9223372036854775808 ≤ n) (h1 : n ≤ 9223372036854775807) (hp : Pow w) :
    Calls Tryd.prog 26 #[.int .i64 n] w fun e w' => e = .returned (.string (bytes (itoa n))) ∧ Below w.heap.size w w' := by
  refine (Tryd.strconv_Itoa n h0 h1 w hp.1).mono ?_
  rintro e w' ⟨rfl, k, os, rfl⟩
  exact ⟨rfl, below_grow _ _ _⟩
end Go.Proofs.YtaakndenkfkijaaDoor
