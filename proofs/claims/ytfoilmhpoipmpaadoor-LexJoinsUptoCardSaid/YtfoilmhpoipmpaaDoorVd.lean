/- What the listed variables read as, all of it. -/
import Derived.Test.YtfoilmhpoipmpaaDoorSy
import Derived.Test.YtfoilmhpoipmpaaDoorVc
import Derived.Lib.LaidTab
namespace Go.Proofs.YtfoilmhpoipmpaaDoor
open Go.ChangeShapes Go.WideShapes Go.ChangeAt Go.RowKit
theorem p10_at : Tryd.prog.globalNamed "internal/strconv.uint64pow10" = some 4 := by kernel_rfl
theorem laidA_P {W : World} (h : laidA W) : ∃ t fr, W.heap[4]? = some (.cells p10C t fr) := by
  have h1 := h.filter (fun x => x.1 == "internal/strconv.uint64pow10")
  have e : LA.filter (fun x => x.1 == "internal/strconv.uint64pow10") = [("internal/strconv.uint64pow10", Rows.laid_internal_strconv_uint64pow10)] := by kernel_rfl
  rw [e] at h1
  have e2 : (Rows.laid_internal_strconv_uint64pow10 : DataW Unit) = Lib.tabData .u64 Lib.pow10Tab := by rfl
  rw [e2] at h1
  have h2 := Lib.tabIs_of_head (g := 4) (t := 103) (e := 90) (n := 20) p10_at (by kernel_rfl) Tryd.underlying103 Tryd.underlying90 (by kernel_rfl) (by kernel_rfl) h1
  exact var_block p10_at h2
theorem B_of {W : World} (h : laidA W) (hs : W.ShapedOpen Tryd.prog) : Lb W := by
  have h1 := A_of h hs
  exact ⟨h1, h1.1, h1.2.1, laidA_P h⟩
end Go.Proofs.YtfoilmhpoipmpaaDoor
