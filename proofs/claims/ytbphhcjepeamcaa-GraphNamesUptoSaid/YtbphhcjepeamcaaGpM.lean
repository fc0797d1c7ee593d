/- Name and Names as they are asked for. Conditions: sizes below 4,000,000,000. -/
import Derived.Test.YtbphhcjepeamcaaGpN
import Derived.Test.YtbphhcjepeamcaaGlNd
namespace Go.Proofs.Ytbphhcjepeamcaa
open Go Go.RowKit Go.Sort
theorem name_holds : NameC := fun s w hs => name_any s (by omega) w
theorem names_holds : NamesC := fun l v w hn hz h => names_any l v (by omega) (fun x hx => by have := hz x hx; omega) w h
end Go.Proofs.Ytbphhcjepeamcaa
