import Derived.Test.YtdeollmeljaaoaaDoorQkk
import Derived.Test.YtdeollmeljaaoaaDoorUek
import Derived.Test.YtdeollmeljaaoaaDoorUbk
import Derived.Test.YtdeollmeljaaoaaDoorSak
import Derived.Deep.Slices
import Derived.Deep.Fields
import Derived.SizedLaws
import Derived.Shelf.SlSortCmp.QuietGrown
import Derived.Test.YtdeollmeljaaoaaDoorUfk
import Derived.Test.YtdeollmeljaaoaaDoorQbk
import Derived.Test.YtdeollmeljaaoaaDoorAzk
import Derived.Test.YtdeollmeljaaoaaDoorSfk
import Derived.Test.YtdeollmeljaaoaaDoorQhk
set_option linter.unusedVariables false
set_option linter.unusedSimpArgs false
open Go.ChangeAt Go.ChangeShapes Go.Deep Go.RowKit Go.WideShapes
namespace Go.Proofs.YtdeollmeljaaoaaDoor
def vc : List V → List Value
 | [] => []
 | v :: l => .int .i64 v.k :: .int .i64 v.n :: .string v.t :: vc l
theorem vc_length : ∀ l : List V, (vc l).length = l.length * 3
 | [] => rfl
 | v :: l => by simp [vc, vc_length l]; omega
theorem vc_at : ∀ {l : List V} {k : Nat}, k < l.length → (vc l)[k * 3]? = some (.int .i64 (l.getD k nul).k) ∧ (vc l)[k * 3 + 1]? = some (.int .i64 (l.getD k nul).n) ∧ (vc l)[k * 3 + 2]? = some (.string (l.getD k nul).t)
 | [], k, h => by simp at h
 | v :: l, 0, _ => by simp [vc]
 | v :: l, k + 1, h => by
  have ih := vc_at (l := l) (k := k) (by simpa using h)
  have e : (k + 1) * 3 = k * 3 + 1 + 1 + 1 := by omega
  rw [e]
  simpa [vc] using ih
theorem vals_of {w : World} {n : Nat} {v : Value} {l : List V} (h : Rd w 3 n v (vc l)) (hn : 0 < n) :
  l.length = n ∧ ∃ b o cap, v = .slice (some ⟨b, o, none⟩) n cap ∧ n ≤ cap ∧ cap ≤ maxLen ∧ b < w.heap.size ∧
   ∀ k, k < n → w.cell? ⟨b, o + k * 3, none⟩ = some (.int .i64 (l.getD k nul).k) ∧ w.cell? ⟨b, o + k * 3 + 1, none⟩ = some (.int .i64 (l.getD k nul).n) ∧ w.cell? ⟨b, o + k * 3 + 2, none⟩ = some (.string (l.getD k nul).t) := by
 have hl : l.length = n := by have := h.1; rw [vc_length] at this; omega
 obtain ⟨b, o, cap, h1, h2, h3, h4, h5⟩ := h.pos hn (by omega)
 refine ⟨hl, b, o, cap, h1, h2, h3, h4, fun k hk => ?_⟩
 obtain ⟨g1, g2, g3⟩ := vc_at (l := l) (k := k) (by omega)
 exact ⟨h5 _ _ g1, h5 _ _ g2, h5 _ _ g3⟩
section
variable {H : Type} {enc : TypeId × Value → H} {P : Program} {w : World} {base : Nat} {spare : Nat → Bool} {held : Bool}
end
theorem len_v {w : World} {n : Nat} {v : Value} {l : List V} (h : Rd w 3 n v (vc l)) : n = l.length := by have := h.1; rw [vc_length] at this; omega
theorem cell_blz {W W' : World} {a : Addr} {v : Value} (hb : Below W.heap.size W W') (h : W.cell? a = some v) : W'.cell? a = some v := (hb.cell (lt_cell h)).trans h
theorem vdrop_cons {l : List V} {k : Nat} (h : k < l.length) : l.drop k = l.getD k nul :: l.drop (k + 1) := by
 rw [List.drop_eq_getElem_cons h]
 simp [List.getD, List.getElem?_eq_getElem h]
inductive Tx where
 | leaf (o : Oq)
 | un (o : Oq) (a : Tx)
 | bi (o : Oq) (a b : Tx)
def Tx.flat : Tx → List Oq
 | .leaf o => [o]
 | .un o a => a.flat ++ [o]
 | .bi o a b => a.flat ++ b.flat ++ [o]
def Tx.op : Tx → Oq
 | .leaf o => o
 | .un o _ => o
 | .bi o _ _ => o
def Tx.ok : Tx → Prop
 | .leaf o => wks o.k = 0 ∧ opF o.k o.v.k o.v.n o.v.t o.t = 0
 | .un o a => wks o.k = 1 ∧ opF o.k o.v.k o.v.n o.v.t o.t = 0 ∧ a.ok
 | .bi o a b => wks o.k = 2 ∧ opF o.k o.v.k o.v.n o.v.t o.t = 0 ∧ a.ok ∧ b.ok
theorem Tx.flat_pos : ∀ t : Tx, 0 < t.flat.length
 | .leaf o => by simp [Tx.flat]
 | .un o a => by simp [Tx.flat]
 | .bi o a b => by simp [Tx.flat]; omega
theorem Tx.ok_mem : ∀ {t : Tx}, t.ok → ∀ o ∈ t.flat, opF o.k o.v.k o.v.n o.v.t o.t = 0
 | .leaf o, h, x, hx => by
  simp only [Tx.flat, List.mem_singleton] at hx
  subst hx
  exact h.2
 | .un o a, h, x, hx => by
  simp only [Tx.flat, List.mem_append, List.mem_singleton] at hx
  rcases hx with hx | rfl
  ·exact Tx.ok_mem h.2.2 x hx
  ·exact h.2.1
 | .bi o a b, h, x, hx => by
  simp only [Tx.flat, List.mem_append, List.mem_singleton] at hx
  rcases hx with (hx | hx) | rfl
  ·exact Tx.ok_mem h.2.2.1 x hx
  ·exact Tx.ok_mem h.2.2.2 x hx
  ·exact h.2.1
def flatS : List Tx → List Oq
 | [] => []
 | t :: s => flatS s ++ t.flat
theorem ex_trees : ∀ (l : List Oq) (st : List Tx) (n : Int), n = (st.length : Int) → (∀ t ∈ st, t.ok) → exF n l = 0 → ∃ t : Tx, t.ok ∧ flatS st ++ l = t.flat
 | [], st, n, hn, hok, h => by
  have h1 : n = 1 := by
   unfold exF at h
   split at h
   ·assumption
   ·omega
  match st, hn with
  | [t], _ => exact ⟨t, hok t (by simp), by simp [flatS]⟩
  | [], hn => simp at hn; omega
  | _ :: _ :: _, hn => simp at hn; omega
 | o :: l, st, n, hn, hok, h => by
  unfold exF at h
  split at h
  ·omega
  ·rename_i h0
   have h0 : opF o.k o.v.k o.v.n o.v.t o.t = 0 := by simpa using h0
   split at h
   ·omega
   ·rename_i hw
    have hx := wks_in o.k
    by_cases k0 : wks o.k = 0
    ·obtain ⟨t, h1, h2⟩ := ex_trees l (.leaf o :: st) (n + 1 - wks o.k) (by simp; omega) (fun t ht => by
      rcases List.mem_cons.1 ht with rfl | ht
      ·exact ⟨k0, h0⟩
      ·exact hok t ht) h
     exact ⟨t, h1, by rw [← h2]; simp [flatS, Tx.flat]⟩
    ·by_cases k1 : wks o.k = 1
     ·match st, hn, hok with
      | [], hn, _ => simp at hn; omega
      | a :: s, hn, hok =>
       obtain ⟨t, h1, h2⟩ := ex_trees l (.un o a :: s) (n + 1 - wks o.k) (by simp at hn ⊢; omega) (fun t ht => by
        rcases List.mem_cons.1 ht with rfl | ht
        ·exact ⟨k1, h0, hok a (by simp)⟩
        ·exact hok t (by simp [ht])) h
       exact ⟨t, h1, by rw [← h2]; simp [flatS, Tx.flat]⟩
     ·have k2 : wks o.k = 2 := by omega
      match st, hn, hok with
      | [], hn, _ => simp at hn; omega
      | [a], hn, _ => simp at hn; omega
      | b :: a :: s, hn, hok =>
       obtain ⟨t, h1, h2⟩ := ex_trees l (.bi o a b :: s) (n + 1 - wks o.k) (by simp at hn ⊢; omega) (fun t ht => by
        rcases List.mem_cons.1 ht with rfl | ht
        ·exact ⟨k2, h0, hok a (by simp), hok b (by simp)⟩
        ·exact hok t (by simp [ht])) h
       exact ⟨t, h1, by rw [← h2]; simp [flatS, Tx.flat]⟩
theorem expr_tree {l : List Oq} (h : exprF l = 0) : l.length ≤ 40 ∧ ∃ t : Tx, t.ok ∧ l = t.flat := by
 unfold exprF at h
 split at h
 ·omega
 ·obtain ⟨t, h1, h2⟩ := ex_trees l [] 0 rfl (by simp) h
  exact ⟨by omega, t, h1, by simpa [flatS] using h2⟩
section
variable {α : Type} (lf : Oq → Int × α) (one : Int → α → Int × α) (two : Int → α → α → Int × α)
def evT : Tx → Int × α
 | .leaf o => lf o
 | .un o a => if (evT a).1 ≠ 0 then evT a else one o.k (evT a).2
 | .bi o a b => if (evT a).1 ≠ 0 then evT a else if (evT b).1 ≠ 0 then evT b else two o.k (evT a).2 (evT b).2
def rnF : List α → List Oq → Int × List α
 | st, [] => (0, st)
 | st, o :: l =>
  if wks o.k = 0 then (if (lf o).1 ≠ 0 then ((lf o).1, []) else rnF ((lf o).2 :: st) l)
  else if wks o.k = 1 then (match st with
   | a :: s => if (one o.k a).1 ≠ 0 then ((one o.k a).1, []) else rnF ((one o.k a).2 :: s) l
   | [] => (0, []))
  else (match st with
   | b :: a :: s => if (two o.k a b).1 ≠ 0 then ((two o.k a b).1, []) else rnF ((two o.k a b).2 :: s) l
   | _ => (0, []))
theorem rn_leaf {o : Oq} {st : List α} {l : List Oq} (h : wks o.k = 0) : rnF lf one two st (o :: l) = if (lf o).1 ≠ 0 then ((lf o).1, []) else rnF lf one two ((lf o).2 :: st) l := by
 conv => lhs; unfold rnF
 rw [if_pos h]
theorem rn_un {o : Oq} {a : α} {st : List α} {l : List Oq} (h : wks o.k = 1) : rnF lf one two (a :: st) (o :: l) = if (one o.k a).1 ≠ 0 then ((one o.k a).1, []) else rnF lf one two ((one o.k a).2 :: st) l := by
 conv => lhs; unfold rnF
 rw [if_neg (by omega), if_pos h]
theorem rn_bi {o : Oq} {a b : α} {st : List α} {l : List Oq} (h : wks o.k = 2) : rnF lf one two (b :: a :: st) (o :: l) = if (two o.k a b).1 ≠ 0 then ((two o.k a b).1, []) else rnF lf one two ((two o.k a b).2 :: st) l := by
 conv => lhs; unfold rnF
 rw [if_neg (by omega), if_neg (by omega)]
theorem ev_un_bad {o : Oq} {a : Tx} (h : (evT lf one two a).1 ≠ 0) : evT lf one two (.un o a) = evT lf one two a := by
 conv => lhs; unfold evT
 rw [if_pos h]
theorem ev_un {o : Oq} {a : Tx} (h : (evT lf one two a).1 = 0) : evT lf one two (.un o a) = one o.k (evT lf one two a).2 := by
 conv => lhs; unfold evT
 rw [if_neg (by simpa using h)]
theorem ev_bi_bad {o : Oq} {a b : Tx} (h : (evT lf one two a).1 ≠ 0) : evT lf one two (.bi o a b) = evT lf one two a := by
 conv => lhs; unfold evT
 rw [if_pos h]
theorem ev_bi_bad2 {o : Oq} {a b : Tx} (h : (evT lf one two a).1 = 0) (h2 : (evT lf one two b).1 ≠ 0) : evT lf one two (.bi o a b) = evT lf one two b := by
 conv => lhs; unfold evT
 rw [if_neg (by simpa using h), if_pos h2]
theorem ev_bi {o : Oq} {a b : Tx} (h : (evT lf one two a).1 = 0) (h2 : (evT lf one two b).1 = 0) : evT lf one two (.bi o a b) = two o.k (evT lf one two a).2 (evT lf one two b).2 := by
 conv => lhs; unfold evT
 rw [if_neg (by simpa using h), if_neg (by simpa using h2)]
theorem rn_tree : ∀ (t : Tx), t.ok → ∀ (st : List α) (r : List Oq), rnF lf one two st (t.flat ++ r) = if (evT lf one two t).1 ≠ 0 then ((evT lf one two t).1, []) else rnF lf one two ((evT lf one two t).2 :: st) r
 | .leaf o, h, st, r => rn_leaf lf one two h.1
 | .un o a, h, st, r => by
  rw [Tx.flat, List.append_assoc, rn_tree a h.2.2]
  by_cases h1 : (evT lf one two a).1 = 0
  ·rw [if_neg (by simpa using h1), ev_un lf one two h1]
   exact rn_un lf one two h.1
  ·rw [ev_un_bad lf one two h1, if_pos h1, if_pos h1]
 | .bi o a b, h, st, r => by
  rw [Tx.flat, List.append_assoc, List.append_assoc, rn_tree a h.2.2.1]
  by_cases h1 : (evT lf one two a).1 = 0
  ·rw [if_neg (by simpa using h1), rn_tree b h.2.2.2]
   by_cases h2 : (evT lf one two b).1 = 0
   ·rw [if_neg (by simpa using h2), ev_bi lf one two h1 h2]
    exact rn_bi lf one two h.1
   ·rw [ev_bi_bad2 lf one two h1 h2, if_pos h2, if_pos h2]
  ·rw [ev_bi_bad lf one two h1, if_pos h1, if_pos h1]
theorem rn_whole {t : Tx} (h : t.ok) : rnF lf one two [] t.flat = if (evT lf one two t).1 ≠ 0 then ((evT lf one two t).1, []) else (0, [(evT lf one two t).2]) := by
 have := rn_tree lf one two t h [] []
 rw [List.append_nil] at this
 rw [this]
 rfl
end
end Go.Proofs.YtdeollmeljaaoaaDoor
namespace Go.Proofs.YtdeollmeljaaoaaDoor.cs
structure Sq where
 k : Int
 t : ByteArray
 cols : List Cq
 row : List V
 names : List ByteArray
 cnt : Bool
 wh : List Oq
 ord : ByteArray
 dn : Bool
 lim : Int
 st : ByteArray
 to : List Oq
def rowL : List V → Int
 | [] => 0
 | v :: l => if litF v.k v.n v.t ≠ 0 then litF v.k v.n v.t else rowL l
def insF (l : List V) : Int := if l.length < 1 ∨ 6 < l.length then 1 else rowL l
def nmsF : List ByteArray → Int
 | [] => 0
 | t :: l => if nmF t.data.toList ≠ 0 then nmF t.data.toList else nmsF l
def whF (l : List Oq) : Int := if l.length = 0 then 0 else exprF l
def em (t : ByteArray) : Bool := t.toList.isEmpty
def ordF (t : ByteArray) : Int := if em t = true then 0 else nmF t.data.toList
def f3 (a b c : Int) : Int := if a ≠ 0 then a else if b ≠ 0 then b else c
def sel0 (n : Nat) (lim : Int) (cnt dn : Bool) (ord : ByteArray) : Int := if 6 < n then 1 else if lim < -1 then 3 else if (cnt = true ∧ 0 < n) ∨ (dn = true ∧ em ord = true) then 6 else 0
def selF (s : Sq) : Int := if sel0 s.names.length s.lim s.cnt s.dn s.ord ≠ 0 then sel0 s.names.length s.lim s.cnt s.dn s.ord else f3 (nmsF s.names) (whF s.wh) (ordF s.ord)
def partsF (s : Sq) : Int := if s.k = 1 then colsF s.cols else if s.k = 3 then insF s.row else if s.k = 4 then selF s else if s.k = 5 then f3 (nmF s.st.data.toList) (exprF s.to) (whF s.wh) else if s.k = 6 then whF s.wh else 0
def moreF (s : Sq) : Bool :=
 (decide (6 < s.k) && !em s.t) || (!(s.k == 1) && decide (0 < s.cols.length)) || (!(s.k == 3) && decide (0 < s.row.length)) ||
 (!(s.k == 4) && (decide (0 < s.names.length) || s.cnt || !em s.ord || s.dn || !(s.lim == -1))) || (!(s.k == 5) && (!em s.st || decide (0 < s.to.length))) ||
 (!(s.k == 4) && !(s.k == 5) && !(s.k == 6) && decide (0 < s.wh.length))
abbrev sNULL : ByteArray := ⟨#[78, 85, 76, 76]⟩
abbrev sFALSE : ByteArray := ⟨#[70, 65, 76, 83, 69]⟩
abbrev sTRUE : ByteArray := ⟨#[84, 82, 85, 69]⟩
abbrev sMinus : ByteArray := ⟨#[45]⟩
abbrev sNOT : ByteArray := ⟨#[78, 79, 84]⟩
abbrev sIS : ByteArray := ⟨#[73, 83]⟩
abbrev sWHERE : ByteArray := ⟨#[87, 72, 69, 82, 69]⟩
abbrev sDROP : ByteArray := ⟨#[68, 82, 79, 80]⟩
abbrev sINSERT : ByteArray := ⟨#[73, 78, 83, 69, 82, 84]⟩
abbrev sINTO : ByteArray := ⟨#[73, 78, 84, 79]⟩
abbrev sVALUES : ByteArray := ⟨#[86, 65, 76, 85, 69, 83]⟩
abbrev sSELECT : ByteArray := ⟨#[83, 69, 76, 69, 67, 84]⟩
abbrev sCOUNT : ByteArray := ⟨#[67, 79, 85, 78, 84]⟩
abbrev sStar : ByteArray := ⟨#[42]⟩
abbrev sFROM : ByteArray := ⟨#[70, 82, 79, 77]⟩
abbrev sORDER : ByteArray := ⟨#[79, 82, 68, 69, 82]⟩
abbrev sBY : ByteArray := ⟨#[66, 89]⟩
abbrev sDESC : ByteArray := ⟨#[68, 69, 83, 67]⟩
abbrev sLIMIT : ByteArray := ⟨#[76, 73, 77, 73, 84]⟩
abbrev sUPDATE : ByteArray := ⟨#[85, 80, 68, 65, 84, 69]⟩
abbrev sSET : ByteArray := ⟨#[83, 69, 84]⟩
abbrev sEq : ByteArray := ⟨#[61]⟩
abbrev sDELETE : ByteArray := ⟨#[68, 69, 76, 69, 84, 69]⟩
abbrev sBEGIN : ByteArray := ⟨#[66, 69, 71, 73, 78]⟩
abbrev sCOMMIT : ByteArray := ⟨#[67, 79, 77, 77, 73, 84]⟩
abbrev sROLLBACK : ByteArray := ⟨#[82, 79, 76, 76, 66, 65, 67, 75]⟩
def valT (v : V) : List Tk :=
 if v.k = 3 then [⟨3, v.t.data.toList, 0⟩] else if v.k = 2 then (if v.n < 0 then [ptk sMinus, ⟨2, [], -v.n⟩] else [⟨2, [], v.n⟩])
 else if v.k = 0 then [ptk sNULL] else if v.n = 0 then [ptk sFALSE] else [ptk sTRUE]
def lfT (o : Oq) : List Tk := if o.k = 1 then valT o.v else [ptk o.t]
abbrev sgT (k : Int) : ByteArray := ⟨(sgL.getD k.toNat []).toArray⟩
def onT (k : Int) (a : List Tk) : List Tk := if k = 5 then [ptk sOpen, ptk sNOT] ++ (a ++ [ptk sClose]) else [ptk sOpen] ++ (a ++ [ptk sIS, ptk sNULL, ptk sClose])
def twT (k : Int) (a b : List Tk) : List Tk := [ptk sOpen] ++ (a ++ ([ptk (sgT k)] ++ (b ++ [ptk sClose])))
def lfS (o : Oq) : Int × List Tk := (0, lfT o)
def onS (k : Int) (a : List Tk) : Int × List Tk := (0, onT k a)
def twS (k : Int) (a b : List Tk) : Int × List Tk := (0, twT k a b)
def shX : Tx → List Tk
 | .leaf o => lfT o
 | .un o a => onT o.k (shX a)
 | .bi o a b => twT o.k (shX a) (shX b)
theorem ev_sh : ∀ t : Tx, evT lfS onS twS t = (0, shX t)
 | .leaf o => rfl
 | .un o a => by
  have h := ev_sh a
  rw [ev_un _ _ _ (by rw [h]), h]
  rfl
 | .bi o a b => by
  have h := ev_sh a
  have g := ev_sh b
  rw [ev_bi _ _ _ (by rw [h]) (by rw [g]), h, g]
  rfl
def exT (l : List Oq) : List Tk := (rnF lfS onS twS [] l).2.headD []
theorem exT_tree {t : Tx} (h : t.ok) : exT t.flat = shX t := by
 unfold exT
 rw [rn_whole _ _ _ h, ev_sh]
 rfl
theorem valT_len (v : V) : (valT v).length ≤ 2 := by
 unfold valT
 split
 ·simp
 ·split
  ·split <;> simp
  ·split
   ·simp
   ·split <;> simp
theorem lfT_len (o : Oq) : (lfT o).length ≤ 2 := by
 unfold lfT
 split
 ·exact valT_len _
 ·simp
theorem onT_len (k : Int) (a : List Tk) : (onT k a).length ≤ a.length + 4 := by
 unfold onT
 split <;> simp
theorem twT_len (k : Int) (a b : List Tk) : (twT k a b).length = a.length + b.length + 3 := by
 unfold twT
 simp
 omega
theorem shX_len : ∀ t : Tx, (shX t).length ≤ 4 * t.flat.length
 | .leaf o => by
  have := lfT_len o
  simp [shX, Tx.flat]
  omega
 | .un o a => by
  have h := shX_len a
  have g := onT_len o.k (shX a)
  simp [shX, Tx.flat]
  omega
 | .bi o a b => by
  have h := shX_len a
  have h2 := shX_len b
  have g := twT_len o.k (shX a) (shX b)
  simp [shX, Tx.flat]
  omega
theorem exT_len {l : List Oq} (h : exprF l = 0) : (exT l).length ≤ 160 := by
 obtain ⟨h1, t, h2, rfl⟩ := expr_tree h
 rw [exT_tree h2]
 have := shX_len t
 omega
def whT (l : List Oq) : List Tk := if l.length = 0 then [] else [ptk sWHERE] ++ exT l
theorem whT_len {l : List Oq} (h : whF l = 0) : (whT l).length ≤ 161 := by
 unfold whT
 unfold whF at h
 by_cases h0 : l.length = 0
 ·rw [if_pos h0]; simp
 ·rw [if_neg h0] at h ⊢
  have := exT_len h
  simp
  omega
def shN (t : ByteArray) : List Tk := [ptk t]
def whatT (s : Sq) : List Tk := if s.cnt = true then [ptk sCOUNT, ptk sOpen, ptk sStar, ptk sClose] else if s.names.length = 0 then [ptk sStar] else []
def ordT (s : Sq) : List Tk := if em s.ord = true then [] else [ptk sORDER, ptk sBY, ptk s.ord]
def dnT (s : Sq) : List Tk := if s.dn = true then [ptk sDESC] else []
def limT (s : Sq) : List Tk := if 0 ≤ s.lim then [ptk sLIMIT, ⟨2, [], s.lim⟩] else []
def midT (s : Sq) : List Tk := ([ptk sSELECT] ++ whatT s) ++ (btw comma shN s.names ++ ([ptk sFROM, ptk s.t] ++ whT s.wh))
def selT (s : Sq) : List Tk := ((midT s ++ ordT s) ++ dnT s) ++ limT s
def shT (s : Sq) : List Tk :=
 if s.k = 1 then crT s.t s.cols else if s.k = 2 then [ptk sDROP, ptk sTABLE, ptk s.t]
 else if s.k = 3 then [ptk sINSERT, ptk sINTO, ptk s.t, ptk sVALUES, ptk sOpen] ++ (btw comma valT s.row ++ [ptk sClose])
 else if s.k = 4 then selT s else if s.k = 5 then [ptk sUPDATE, ptk s.t, ptk sSET, ptk s.st, ptk sEq] ++ (exT s.to ++ whT s.wh)
 else if s.k = 6 then [ptk sDELETE, ptk sFROM, ptk s.t] ++ whT s.wh else if s.k = 7 then [ptk sBEGIN] else if s.k = 8 then [ptk sCOMMIT] else [ptk sROLLBACK]
def tabF (s : Sq) : Int := if s.k ≤ 6 then nmF s.t.data.toList else 0
def st0 (s : Sq) : Int := if s.k < 1 ∨ 9 < s.k then 2 else f3 (tabF s) (partsF s) (if moreF s = true then 6 else 0)
def stF (s : Sq) : Int := if st0 s ≠ 0 then st0 s else if 100 < (shT s).length then 10 else 0
theorem f3_zero {a b c : Int} (h : f3 a b c = 0) : a = 0 ∧ b = 0 ∧ c = 0 := by
 unfold f3 at h
 split at h
 ·omega
 ·split at h
  ·omega
  ·exact ⟨by omega, by omega, h⟩
theorem st0_ok {s : Sq} (h : st0 s = 0) : 1 ≤ s.k ∧ s.k ≤ 9 ∧ tabF s = 0 ∧ partsF s = 0 ∧ moreF s = false := by
 unfold st0 at h
 split at h
 ·omega
 ·obtain ⟨h1, h2, h3⟩ := f3_zero h
  refine ⟨by omega, by omega, h1, h2, ?_⟩
  cases hm : moreF s with
  | false => rfl
  | true => rw [hm] at h3; simp at h3
theorem btwv_len (l : List V) : (btw comma valT l).length ≤ l.length * 3 := btw_len comma valT 3 (fun y => by have := valT_len y; simp [comma]; omega) l
theorem btwn_len (l : List ByteArray) : (btw comma shN l).length ≤ l.length * 3 := btw_len comma shN 3 (fun y => by simp [comma, shN]) l
theorem sel_zero {s : Sq} (h : selF s = 0) : s.names.length ≤ 6 ∧ -1 ≤ s.lim ∧ ¬ (s.cnt = true ∧ 0 < s.names.length) ∧ ¬ (s.dn = true ∧ em s.ord = true) ∧ nmsF s.names = 0 ∧ whF s.wh = 0 ∧ ordF s.ord = 0 := by
 unfold selF at h
 split at h
 ·omega
 ·rename_i h0
  have h0 : sel0 s.names.length s.lim s.cnt s.dn s.ord = 0 := by simpa using h0
  obtain ⟨h1, h2, h3⟩ := f3_zero h
  unfold sel0 at h0
  split at h0
  ·omega
  ·split at h0
   ·omega
   ·split at h0
    ·omega
    ·rename_i hh
     exact ⟨by omega, by omega, fun e => hh (.inl e), fun e => hh (.inr e), h1, h2, h3⟩
theorem selT_len {s : Sq} (h : selF s = 0) : (selT s).length ≤ 200 := by
 obtain ⟨h1, h2, h3, h4, h5, h6, h7⟩ := sel_zero h
 have g1 := whT_len h6
 have g2 := btwn_len s.names
 have e1 : (whatT s).length ≤ 4 := by unfold whatT; split; simp; split <;> simp
 have e2 : (ordT s).length ≤ 3 := by unfold ordT; split <;> simp
 have e3 : (dnT s).length ≤ 1 := by unfold dnT; split <;> simp
 have e4 : (limT s).length ≤ 2 := by unfold limT; split <;> simp
 unfold selT midT
 simp only [List.length_append, List.length_cons, List.length_nil] at *
 omega
theorem shT_len {s : Sq} (h : partsF s = 0) : (shT s).length ≤ 400 := by
 unfold partsF at h
 unfold shT
 split at h
 ·rename_i hk
  rw [if_pos hk]
  obtain ⟨_, _, g⟩ := colsF_ok h
  have := crT_len s.t s.cols
  omega
 ·rename_i hk
  rw [if_neg hk]
  split
  ·simp
  ·split at h
   ·rename_i hk3
    rw [if_pos hk3]
    unfold insF at h
    split at h
    ·omega
    ·have := btwv_len s.row
     simp only [List.length_append, List.length_cons, List.length_nil]
     omega
   ·rename_i hk3
    rw [if_neg hk3]
    split at h
    ·rename_i hk4
     rw [if_pos hk4]
     have := selT_len h
     omega
    ·rename_i hk4
     rw [if_neg hk4]
     split at h
     ·rename_i hk5
      rw [if_pos hk5]
      obtain ⟨_, h2, h3⟩ := f3_zero h
      have g1 := exT_len h2
      have g2 := whT_len h3
      simp only [List.length_append, List.length_cons, List.length_nil]
      omega
     ·rename_i hk5
      rw [if_neg hk5]
      split at h
      ·rename_i hk6
       rw [if_pos hk6]
       have g2 := whT_len h
       simp only [List.length_append, List.length_cons, List.length_nil]
       omega
      ·rename_i hk6
       rw [if_neg hk6]
       split
       ·simp
       ·split <;> simp
end Go.Proofs.YtdeollmeljaaoaaDoor.cs
