import Derived.Test.YtdeollmeljaaoaaDoorDek
set_option linter.unusedVariables false
set_option linter.unusedSimpArgs false
open Go.ChangeAt Go.ChangeShapes Go.RowKit Go.WideShapes
namespace Go.Proofs.YtdeollmeljaaoaaDoor.rd
open Go.Proofs.YtdeollmeljaaoaaDoor.cs
theorem literal_any (w : World) (hT : Tbq w) (B : Nat) (hB : B ≠ 1) (a : Option Addr) (n c : Nat) (L : List Tk) (k : Nat) (ov : Value) (h : Rdr w B a n c L k ov) (z0 : 0 ≤ (L.getD (k + 1) tk0).n) (z1 : (L.getD (k + 1) tk0).n ≤ 9223372036854775807) :
  Calls Tryd.prog 78 #[.pointer (some ⟨B, 0, none⟩)] w (Goes w B a n c L ov (litF L n k)) := by
 unfold litF
 by_cases m0 : mayB L k sNULL = true
 ·rw [if_pos m0]; exact lit0 w hT B hB a n c L k ov h m0
 rw [if_neg m0]
 have m0 : mayB L k sNULL = false := by simpa using m0
 by_cases m1 : mayB L k sFALSE = true
 ·rw [if_pos m1]; exact lit1 w hT B hB a n c L k ov h m0 m1
 rw [if_neg m1]
 have m1 : mayB L k sFALSE = false := by simpa using m1
 by_cases m2 : mayB L k sTRUE = true
 ·rw [if_pos m2]; exact lit2 w hT B hB a n c L k ov h m0 m1 m2
 rw [if_neg m2]
 have m2 : mayB L k sTRUE = false := by simpa using m2
 by_cases m3 : mayB L k sMinus = true
 ·rw [if_pos m3]
  by_cases hn : (L.getD (k + 1) tk0).k = 2
  ·rw [if_pos hn]; exact lit3 w hT B hB a n c L k ov h m0 m1 m2 m3 hn z0 z1
  ·rw [if_neg hn]; exact lit4 w hT B hB a n c L k ov h m0 m1 m2 m3 hn
 rw [if_neg m3]
 have m3 : mayB L k sMinus = false := by simpa using m3
 by_cases h2 : (L.getD k tk0).k = 2
 ·rw [if_pos h2]; exact lit5 w hT B hB a n c L k ov h m0 m1 m2 m3 h2
 rw [if_neg h2]
 by_cases h3 : (L.getD k tk0).k = 3
 ·rw [if_pos h3]
  by_cases hl : 20 < (L.getD k tk0).t.length
  ·rw [if_pos hl]; exact lit6 w hT B hB a n c L k ov h m0 m1 m2 m3 h3 hl
  ·rw [if_neg hl]; exact lit7 w hT B hB a n c L k ov h m0 m1 m2 m3 h3 hl
 rw [if_neg h3]
 exact lit8 w hT B hB a n c L k ov h m0 m1 m2 m3 ⟨h2, h3⟩
open Go.Proofs.YtdeollmeljaaoaaDoor.cs
abbrev sComma : ByteArray := ⟨#[44]⟩
abbrev F := Int × Int
def bd {α β : Type} (r : F ⊕ α) (g : α → F ⊕ β) : F ⊕ β := match r with
 | .inl f => .inl f
 | .inr x => g x
@[simp] theorem bd_inl {α β : Type} (f : F) (g : α → F ⊕ β) : bd (.inl f) g = .inl f := rfl
@[simp] theorem bd_inr {α β : Type} (x : α) (g : α → F ⊕ β) : bd (.inr x) g = g x := rfl
theorem bd_ok {α β : Type} {r : F ⊕ α} {g : α → F ⊕ β} {y : β} (h : bd r g = .inr y) : ∃ x, r = .inr x ∧ g x = .inr y := by
 cases r with
 | inl f => cases h
 | inr x => exact ⟨x, rfl, h⟩
abbrev R := Nat → List Oq → F ⊕ (Nat × List Oq)
def v0 : V := ⟨0, 0, ⟨#[]⟩⟩
def opO (q : Nat) : Oq := ⟨q, v0, ⟨#[]⟩⟩
def putF (o : Oq) : R := fun k os => if os.length = 40 then .inl ((k : Int) - 1, 10) else .inr (k, os ++ [o])
def litG (L : List Tk) (n k : Nat) : F ⊕ (Option V × Nat) :=
 if mayB L k sNULL then .inr (some v0, k + 1)
 else if mayB L k sFALSE then .inr (some ⟨1, 0, ⟨#[]⟩⟩, k + 1)
 else if mayB L k sTRUE then .inr (some ⟨1, 1, ⟨#[]⟩⟩, k + 1)
 else if mayB L k sMinus then (if (L.getD (k + 1) tk0).k = 2 then .inr (some ⟨2, -(L.getD (k + 1) tk0).n, ⟨#[]⟩⟩, k + 2) else .inl (fl n (k + 1) 6))
 else if (L.getD k tk0).k = 2 then .inr (some ⟨2, (L.getD k tk0).n, ⟨#[]⟩⟩, k + 1)
 else if (L.getD k tk0).k = 3 then (if 20 < (L.getD k tk0).t.length then .inl (fl n k 1) else .inr (some ⟨3, 0, ⟨(L.getD k tk0).t.toArray⟩⟩, k + 1))
 else .inr (none, k)
def litV (r : F ⊕ (Option V × Nat)) : F ⊕ (Value × Nat) := match r with
 | .inl f => .inl f
 | .inr (some v, k) => .inr (.tuple #[vV v.k v.n v.t, .bool true], k)
 | .inr (none, k) => .inr (.tuple #[vV 0 0 ⟨#[]⟩, .bool false], k)
theorem litF_G (L : List Tk) (n k : Nat) : litF L n k = litV (litG L n k) := by
 unfold litF litG
 repeat' split
 all_goals rfl
def nameG (L : List Tk) (n k : Nat) : F ⊕ (ByteArray × Nat) :=
 if (L.getD k tk0).k = 1 then (if nmF (L.getD k tk0).t = 0 then .inr (⟨(L.getD k tk0).t.toArray⟩, k + 1) else .inl (fl n k (nmF (L.getD k tk0).t))) else .inl (fl n k 6)
theorem nameF_G (L : List Tk) (n k : Nat) : nameF L n k = match nameG L n k with
  | .inl f => .inl f
  | .inr (t, k') => .inr (.string t, k') := by
 unfold nameF nameG
 repeat' split
 all_goals simp_all
def numG (L : List Tk) (n k : Nat) : F ⊕ (Int × Nat) := if (L.getD k tk0).k = 2 then .inr ((L.getD k tk0).n, k + 1) else .inl (fl n k 6)
def loopC (L : List Tk) (th : R) (ks : List Nat) : Nat → R
 | 0, k, os => .inr (k, os)
 | f + 1, k, os => match signF L k ks with
  | none => .inr (k, os)
  | some q => bd (th (k + 1) os) fun x => bd (putF (opO q) x.1 x.2) fun y => loopC L th ks f y.1 y.2
def chainF (L : List Tk) (th : R) (ks : List Nat) : R := fun k os => bd (th k os) fun x => loopC L th ks L.length x.1 x.2
def deniedF (L : List Tk) (cmp : R) : Nat → R
 | 0, k, os => cmp k os
 | f + 1, k, os => if mayB L k sNOT then bd (deniedF L cmp f (k + 1) os) fun x => putF (opO 5) x.1 x.2 else cmp k os
def compareF (q : Nat) (nt : Bool) : R := fun k os => bd (putF (opO q) k os) fun x => if nt then putF (opO 5) x.1 x.2 else .inr x
def cmpF (L : List Tk) (k : Nat) : List Cmq → Option Cmq
 | [] => none
 | c :: l => if mayB L k ⟨c.s.toArray⟩ then some c else cmpF L k l
def turnF (a b : Nat) (os : List Oq) : List Oq := os.take a ++ (os.drop b ++ (os.take b).drop a)
def isF (L : List Tk) (n : Nat) : R := fun k os =>
 if mayB L k sNOT then (if mayB L (k + 1) sNULL then compareF 11 true (k + 2) os else .inl (fl n (k + 1) 6))
 else (if mayB L k sNULL then compareF 11 false (k + 1) os else .inl (fl n k 6))
def comparisonF (L : List Tk) (n : Nat) (sm : R) : R := fun k os => bd (sm k os) fun x =>
 if mayB L x.1 sIS then isF L n (x.1 + 1) x.2
 else match cmpF L x.1 cmL with
  | none => .inr x
  | some c => bd (sm (x.1 + 1) x.2) fun y => compareF c.q c.nt y.1 (if c.tn then turnF os.length x.2.length y.2 else y.2)
def leafF (L : List Tk) (n : Nat) : R := fun k os => bd (litG L n k) fun x => match x.1 with
 | some v => putF ⟨1, v, ⟨#[]⟩⟩ x.2 os
 | none => bd (nameG L n k) fun y => putF ⟨2, v0, y.1⟩ y.2 os
def thingF (L : List Tk) (n : Nat) (E : R) : R := fun k os =>
 if mayB L k sOpen then bd (E (k + 1) os) fun x => if mayB L x.1 sClose then .inr (x.1 + 1, x.2) else .inl (fl n x.1 6)
 else leafF L n k os
def productF (L : List Tk) (n : Nat) (E : R) : R := chainF L (thingF L n E) [10]
def sumF (L : List Tk) (n : Nat) (E : R) : R := chainF L (productF L n E) [8, 9]
def denF (L : List Tk) (n : Nat) (E : R) : R := deniedF L (comparisonF L n (sumF L n E)) L.length
def bothF (L : List Tk) (n : Nat) (E : R) : R := chainF L (denF L n E) [3]
def eitherF (L : List Tk) (n : Nat) (E : R) : R := chainF L (bothF L n E) [4]
def eithD (L : List Tk) (n : Nat) : Nat → R
 | 0, k, os => .inr (k, os)
 | d + 1, k, os => eitherF L n (eithD L n d) k os
def expF (L : List Tk) (n k : Nat) : F ⊕ (Nat × List Oq) := eithD L n (L.length + 1) k []
def whereF (L : List Tk) (n k : Nat) : F ⊕ (Nat × List Oq) := if mayB L k sWHERE then expF L n (k + 1) else .inr (k, [])
def listL {σ : Type} (L : List Tk) (th : Nat → σ → F ⊕ (Nat × σ)) : Nat → Nat → σ → F ⊕ (Nat × σ)
 | 0, k, s => if mayB L k sComma then .inl ((k : Int), 10) else .inr (k, s)
 | f + 1, k, s => if mayB L k sComma then bd (th (k + 1) s) fun x => listL L th f x.1 x.2 else .inr (k, s)
def listF {σ : Type} (L : List Tk) (th : Nat → σ → F ⊕ (Nat × σ)) (k : Nat) (s : σ) : F ⊕ (Nat × σ) := bd (th k s) fun x => listL L th 5 x.1 x.2
def kindF (L : List Tk) (k : Nat) : List (Nat × List UInt8) → Option Nat
 | [] => none
 | c :: l => if mayB L k ⟨c.2.toArray⟩ then some c.1 else kindF L k l
def kwL : List (Nat × List UInt8) := [(0, []), (1, [66, 79, 79, 76]), (2, [73, 78, 84]), (3, [84, 69, 88, 84])]
def kindG (L : List Tk) (n k : Nat) : F ⊕ (Nat × Nat) := match kindF L k kwL with
 | some q => .inr (q, k + 1)
 | none => .inl (fl n k 6)
def colF (L : List Tk) (n : Nat) : Nat → List Cq → F ⊕ (Nat × List Cq) := fun k l => bd (nameG L n k) fun x =>
 if hasC l x.1 then .inl ((x.2 : Int) - 1, 9) else bd (kindG L n x.2) fun y => .inr (y.2, l ++ [⟨x.1, y.1⟩])
def valF (L : List Tk) (n : Nat) : Nat → List V → F ⊕ (Nat × List V) := fun k l => bd (litG L n k) fun x => match x.1 with
 | some v => .inr (x.2, l ++ [v])
 | none => .inl (fl n x.2 6)
def nmsG (L : List Tk) (n : Nat) : Nat → List ByteArray → F ⊕ (Nat × List ByteArray) := fun k l => bd (nameG L n k) fun x => .inr (x.2, l ++ [x.1])
def sq0 : Sq := ⟨0, ⟨#[]⟩, [], [], [], false, [], ⟨#[]⟩, false, -1, ⟨#[]⟩, []⟩
def createF (L : List Tk) (n k : Nat) (s : Sq) : F ⊕ (Nat × Sq) :=
 bd (mustF L n k [sTABLE]) fun k => bd (nameG L n k) fun x => bd (mustF L n x.2 [sOpen]) fun k => bd (listF L (colF L n) k s.cols) fun y =>
 bd (mustF L n y.1 [sClose]) fun k => .inr (k, { s with k := 1, t := x.1, cols := y.2 })
def dropF (L : List Tk) (n k : Nat) (s : Sq) : F ⊕ (Nat × Sq) := bd (mustF L n k [sTABLE]) fun k => bd (nameG L n k) fun x => .inr (x.2, { s with k := 2, t := x.1 })
def insertF (L : List Tk) (n k : Nat) (s : Sq) : F ⊕ (Nat × Sq) :=
 bd (mustF L n k [sINTO]) fun k => bd (nameG L n k) fun x => bd (mustF L n x.2 [sVALUES, sOpen]) fun k => bd (listF L (valF L n) k s.row) fun y =>
 bd (mustF L n y.1 [sClose]) fun k => .inr (k, { s with k := 3, t := x.1, row := y.2 })
def orderF (L : List Tk) (n k : Nat) : F ⊕ (Nat × ByteArray × Bool) :=
 if mayB L k sORDER then bd (mustF L n (k + 1) [sBY]) fun k => bd (nameG L n k) fun x => .inr (if mayB L x.2 sDESC then (x.2 + 1, x.1, true) else (x.2, x.1, false))
 else .inr (k, ⟨#[]⟩, false)
def limitF (L : List Tk) (n k : Nat) : F ⊕ (Nat × Int) := if mayB L k sLIMIT then bd (numG L n (k + 1)) fun x => .inr (x.2, x.1) else .inr (k, -1)
def headF (L : List Tk) (n k : Nat) : F ⊕ (Nat × List ByteArray × Bool) :=
 if mayB L k sStar then .inr (k + 1, [], false)
 else if mayB L k sCOUNT then bd (mustF L n (k + 1) [sOpen, sStar, sClose]) fun k => .inr (k, [], true)
 else bd (listF L (nmsG L n) k []) fun x => .inr (x.1, x.2, false)
def chooseF (L : List Tk) (n k : Nat) (s : Sq) : F ⊕ (Nat × Sq) :=
 bd (headF L n k) fun h => bd (mustF L n h.1 [sFROM]) fun k => bd (nameG L n k) fun x => bd (whereF L n x.2) fun y => bd (orderF L n y.1) fun z => bd (limitF L n z.1) fun u =>
 .inr (u.1, { s with k := 4, t := x.1, names := h.2.1, cnt := h.2.2, wh := y.2, ord := z.2.1, dn := z.2.2, lim := u.2 })
def updateF (L : List Tk) (n k : Nat) (s : Sq) : F ⊕ (Nat × Sq) :=
 bd (nameG L n k) fun x => bd (mustF L n x.2 [sSET]) fun k => bd (nameG L n k) fun y => bd (mustF L n y.2 [sEq]) fun k => bd (expF L n k) fun z => bd (whereF L n z.1) fun u =>
 .inr (u.1, { s with k := 5, t := x.1, st := y.1, to := z.2, wh := u.2 })
def deleteF (L : List Tk) (n k : Nat) (s : Sq) : F ⊕ (Nat × Sq) := bd (mustF L n k [sFROM]) fun k => bd (nameG L n k) fun x => bd (whereF L n x.2) fun y => .inr (y.1, { s with k := 6, t := x.1, wh := y.2 })
def partF (L : List Tk) (n : Nat) (s : Sq) : F ⊕ (Nat × Sq) :=
 if mayB L 0 sCREATE then createF L n 1 s
 else if mayB L 0 sDROP then dropF L n 1 s
 else if mayB L 0 sINSERT then insertF L n 1 s
 else if mayB L 0 sSELECT then chooseF L n 1 s
 else if mayB L 0 sUPDATE then updateF L n 1 s
 else if mayB L 0 sDELETE then deleteF L n 1 s
 else if mayB L 0 sBEGIN then .inr (1, { s with k := 7 })
 else if mayB L 0 sCOMMIT then .inr (1, { s with k := 8 })
 else if mayB L 0 sROLLBACK then .inr (1, { s with k := 9 })
 else .inr (0, s)
def stmtF (L : List Tk) (n : Nat) : F ⊕ Sq := bd (partF L n sq0) fun x => if x.2.k = 0 ∨ x.1 < n then .inl (fl n x.1 6) else .inr x.2
end Go.Proofs.YtdeollmeljaaoaaDoor.rd
