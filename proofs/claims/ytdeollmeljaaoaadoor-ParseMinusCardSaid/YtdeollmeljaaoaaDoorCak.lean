import Derived.Test.YtdeollmeljaaoaaDoorUfk
import Derived.Test.YtdeollmeljaaoaaDoorQbk
import Derived.Test.YtdeollmeljaaoaaDoorQck
import Derived.Test.YtdeollmeljaaoaaDoorUbk
import Derived.Test.YtdeollmeljaaoaaDoorSfk
import Derived.Test.YtdeollmeljaaoaaDoorQkk
import Derived.Test.YtdeollmeljaaoaaDoorQgk
/- A statement, plainly: what it lacks, what it is shown as. -/
namespace Go.Proofs.YtdeollmeljaaoaaDoor.cs
open Go.ChangeShapes Go.WideShapes Go.ChangeAt Go.RowKit
set_option linter.unusedVariables false
set_option linter.unusedSimpArgs false
/-- A statement's parts. -/
structure Sq where
  k : Int
  t : ByteArray
  cols : List Cq
  row : List V
  names : List ByteArray
  cnt : Bool
  wh : List Oq
  ord : ByteArray
  dn : Bool
  lim : Int
  st : ByteArray
  to : List Oq
def f3 (a b c : Int) : Int := if a ≠ 0 then a else if b ≠ 0 then b else c
abbrev sNULL : ByteArray := ⟨#[78, 85, 76, 76]⟩
abbrev sFALSE : ByteArray := ⟨#[70, 65, 76, 83, 69]⟩
abbrev sTRUE : ByteArray := ⟨#[84, 82, 85, 69]⟩
abbrev sMinus : ByteArray := ⟨#[45]⟩
abbrev sNOT : ByteArray := ⟨#[78, 79, 84]⟩
abbrev sIS : ByteArray := ⟨#[73, 83]⟩
abbrev sWHERE : ByteArray := ⟨#[87, 72, 69, 82, 69]⟩
abbrev sDROP : ByteArray := ⟨#[68, 82, 79, 80]⟩
abbrev sINSERT : ByteArray := ⟨#[73, 78, 83, 69, 82, 84]⟩
abbrev sINTO : ByteArray := ⟨#[73, 78, 84, 79]⟩
abbrev sVALUES : ByteArray := ⟨#[86, 65, 76, 85, 69, 83]⟩
abbrev sSELECT : ByteArray := ⟨#[83, 69, 76, 69, 67, 84]⟩
abbrev sCOUNT : ByteArray := ⟨#[67, 79, 85, 78, 84]⟩
abbrev sStar : ByteArray := ⟨#[42]⟩
abbrev sFROM : ByteArray := ⟨#[70, 82, 79, 77]⟩
abbrev sORDER : ByteArray := ⟨#[79, 82, 68, 69, 82]⟩
abbrev sBY : ByteArray := ⟨#[66, 89]⟩
abbrev sDESC : ByteArray := ⟨#[68, 69, 83, 67]⟩
abbrev sLIMIT : ByteArray := ⟨#[76, 73, 77, 73, 84]⟩
abbrev sUPDATE : ByteArray := ⟨#[85, 80, 68, 65, 84, 69]⟩
abbrev sSET : ByteArray := ⟨#[83, 69, 84]⟩
abbrev sEq : ByteArray := ⟨#[61]⟩
abbrev sDELETE : ByteArray := ⟨#[68, 69, 76, 69, 84, 69]⟩
abbrev sBEGIN : ByteArray := ⟨#[66, 69, 71, 73, 78]⟩
abbrev sCOMMIT : ByteArray := ⟨#[67, 79, 77, 77, 73, 84]⟩
abbrev sROLLBACK : ByteArray := ⟨#[82, 79, 76, 76, 66, 65, 67, 75]⟩
end Go.Proofs.YtdeollmeljaaoaaDoor.cs
