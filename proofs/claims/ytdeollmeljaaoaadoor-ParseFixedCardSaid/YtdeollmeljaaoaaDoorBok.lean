import Derived.Test.YtdeollmeljaaoaaDoorBvk
/- A statement that is shown is parsed as it was. Plain. -/
namespace Go.Proofs.YtdeollmeljaaoaaDoor.rd
open Go.Proofs.YtdeollmeljaaoaaDoor.cs
set_option linter.unusedVariables false
set_option linter.unusedSimpArgs false
set_option maxRecDepth 100000
/-- What a statement goes on with behind its end. -/
def finL : List ByteArray := goL ++ [sComma, sWHERE, sORDER, sDESC, sLIMIT]
theorem fin_go : ∀ s ∈ goL, s ∈ finL := fun s h => List.mem_append_left _ h
theorem must_sh {L : List Tk} {n : Nat} : ∀ (l : List ByteArray) (k : Nat), At L k (l.map ptk) → (∀ s ∈ l, mt (ptk s) s = true) → mustF L n k l = .inr (k + l.length)
  | [], k, h, _ => rfl
  | s :: l, k, h, hm => by
    obtain ⟨h1, h2⟩ := At.one (show At L k (ptk s :: l.map ptk) from h)
    unfold mustF
    rw [if_pos ((may_mt h1 _).trans (hm s (by simp))), must_sh l (k + 1) h2 fun x hx => hm x (by simp [hx])]
    simp only [List.length_cons]
    congr 1
    omega
section
variable {α : Type} {L : List Tk} {th : Nat → List α → F ⊕ (Nat × List α)} {f : α → List Tk}
theorem list_go {l : List α} (hstep : ∀ pre y post k, l = pre ++ y :: post → At L k (f y) → th k pre = .inr (k + (f y).length, pre ++ [y])) :
    ∀ (r pre : List α) (fuel k : Nat), l = pre ++ r → r.length ≤ fuel → At L k (r.flatMap fun y => comma ++ f y) → mayB L (k + (r.flatMap fun y => comma ++ f y).length) sComma = false → listL L th fuel k pre = .inr (k + (r.flatMap fun y => comma ++ f y).length, l)
  | [], pre, fuel, k, hl, hf, hv, hs => by
    simp only [List.flatMap_nil, List.length_nil, Nat.add_zero] at hs ⊢
    simp only [List.append_nil] at hl
    subst hl
    cases fuel with
    | zero => unfold listL; rw [hs]; rfl
    | succ f => unfold listL; rw [hs]; rfl
  | y :: r, pre, fuel, k, hl, hf, hv, hs => by
    obtain ⟨fuel, rfl⟩ : ∃ m, fuel = m + 1 := ⟨fuel - 1, by simp only [List.length_cons] at hf; omega⟩
    have e : ((y :: r).flatMap fun y => comma ++ f y) = ptk sComma :: (f y ++ r.flatMap fun y => comma ++ f y) := by simp [List.flatMap_cons, comma, sComma]
    rw [e] at hv hs ⊢
    obtain ⟨h1, h2⟩ := hv.one
    obtain ⟨h3, h4⟩ := h2.app
    unfold listL
    rw [if_pos ((may_mt h1 _).trans (by decide)), hstep pre y r (k + 1) hl h3, bd_inr]
    simp only [List.length_cons, List.length_append] at hs hf ⊢
    rw [list_go hstep r (pre ++ [y]) fuel _ (by simp [hl]) (by omega) h4 (by rw [← hs]; congr 1; omega)]
    congr 2
    omega
/-- WHAT IS SHOWN OF A LIST IS READ AS IT. -/
theorem list_sh {l : List α} (h0 : l ≠ []) (h6 : l.length ≤ 6) (hstep : ∀ pre y post k, l = pre ++ y :: post → At L k (f y) → th k pre = .inr (k + (f y).length, pre ++ [y])) {k : Nat} (hv : At L k (btw comma f l)) (hs : mayB L (k + (btw comma f l).length) sComma = false) :
    listF L th k [] = .inr (k + (btw comma f l).length, l) := by
  cases l with
  | nil => exact absurd rfl h0
  | cons x r =>
    unfold btw at hv hs ⊢
    obtain ⟨h1, h2⟩ := hv.app
    unfold listF
    rw [hstep [] x r k rfl h1, bd_inr]
    simp only [List.length_append, List.length_cons] at hs h6 ⊢
    rw [List.nil_append, list_go hstep r [x] 5 _ rfl (by omega) h2 (by rw [← hs]; congr 1; omega)]
    congr 2
    omega
end
theorem cl_at : ∀ (pre : List Cq) (m : List Cq) (c : Cq) (post : List Cq), clF m (pre ++ c :: post) = 0 → nmF c.t.data.toList = 0 ∧ (c.k = 1 ∨ c.k = 2 ∨ c.k = 3) ∧ hasC (m ++ pre) c.t = false
  | [], m, c, post, h => by
    simp only [List.nil_append, List.append_nil] at h ⊢
    unfold clF at h
    split at h
    · omega
    · split at h
      · omega
      · split at h
        · omega
        · rename_i h1 h2 h3
          refine ⟨by omega, by omega, by simpa using h3⟩
  | d :: pre, m, c, post, h => by
    simp only [List.cons_append] at h
    unfold clF at h
    split at h
    · omega
    · split at h
      · omega
      · split at h
        · omega
        · have := cl_at pre (m ++ [d]) c post h
          simpa using this
theorem col_sh {L : List Tk} {n : Nat} {l : List Cq} (h : colsF l = 0) {k : Nat} (hv : At L k (btw comma shC l)) (hs : mayB L (k + (btw comma shC l).length) sComma = false) : listF L (colF L n) k [] = .inr (k + (btw comma shC l).length, l) := by
  unfold colsF at h
  split at h
  · omega
  · refine list_sh (by intro e; subst e; simp at *) (by omega) ?_ hv hs
    intro pre c post j e hj
    rw [e] at h
    obtain ⟨h1, h2, h3⟩ := cl_at pre [] c post h
    obtain ⟨ct, ck⟩ := c
    dsimp only at h1 h2 h3
    obtain ⟨g1, g2⟩ := At.one (show At L j (ptk ct :: [ptk ⟨(kdL.getD ck.toNat []).toArray⟩]) from hj)
    obtain ⟨g2, _⟩ := At.one g2
    unfold colF
    rw [name_sh h1 g1, bd_inr, if_neg (by simp only [List.nil_append] at h3; rw [h3]; simp)]
    dsimp only
    have ek : ∃ q : Nat, ck = (q : Int) ∧ kindG L n (j + 1) = .inr (q, j + 1 + 1) := by
      unfold kindG
      rcases h2 with rfl | rfl | rfl
      · refine ⟨1, rfl, ?_⟩
        simp only [kwL, kindF]
        rw [if_neg (by rw [may_mt g2]; decide), if_pos ((may_mt g2 _).trans (by decide))]
      · refine ⟨2, rfl, ?_⟩
        simp only [kwL, kindF]
        rw [if_neg (by rw [may_mt g2]; decide), if_neg (by rw [may_mt g2]; decide), if_pos ((may_mt g2 _).trans (by decide))]
      · refine ⟨3, rfl, ?_⟩
        simp only [kwL, kindF]
        rw [if_neg (by rw [may_mt g2]; decide), if_neg (by rw [may_mt g2]; decide), if_neg (by rw [may_mt g2]; decide), if_pos ((may_mt g2 _).trans (by decide))]
    obtain ⟨q, rfl, hq⟩ := ek
    rw [hq, bd_inr]
    rfl
theorem row_at : ∀ (pre : List V) (v : V) (post : List V), rowL (pre ++ v :: post) = 0 → Go.Proofs.YtdeollmeljaaoaaDoor.litF v.k v.n v.t = 0
  | [], v, post, h => by
    simp only [List.nil_append] at h
    unfold rowL at h
    split at h
    · omega
    · rename_i h1
      simpa using h1
  | d :: pre, v, post, h => by
    simp only [List.cons_append] at h
    unfold rowL at h
    split at h
    · omega
    · exact row_at pre v post h
theorem val_sh {L : List Tk} {n : Nat} {l : List V} (h : insF l = 0) {k : Nat} (hv : At L k (btw comma valT l)) (hs : mayB L (k + (btw comma valT l).length) sComma = false) : listF L (valF L n) k [] = .inr (k + (btw comma valT l).length, l) := by
  unfold insF at h
  split at h
  · omega
  · refine list_sh (by intro e; subst e; simp at *) (by omega) ?_ hv hs
    intro pre v post j e hj
    rw [e] at h
    obtain ⟨g1, _⟩ := lit_sh (n := n) (row_at pre v post h) hj
    unfold valF
    rw [g1, bd_inr]
theorem nms_at : ∀ (pre : List ByteArray) (v : ByteArray) (post : List ByteArray), nmsF (pre ++ v :: post) = 0 → nmF v.data.toList = 0
  | [], v, post, h => by
    simp only [List.nil_append] at h
    unfold nmsF at h
    split at h
    · omega
    · rename_i h1
      simpa using h1
  | d :: pre, v, post, h => by
    simp only [List.cons_append] at h
    unfold nmsF at h
    split at h
    · omega
    · exact nms_at pre v post h
theorem nms_sh {L : List Tk} {n : Nat} {l : List ByteArray} (h : nmsF l = 0) (h0 : l ≠ []) (h6 : l.length ≤ 6) {k : Nat} (hv : At L k (btw comma shN l)) (hs : mayB L (k + (btw comma shN l).length) sComma = false) : listF L (nmsG L n) k [] = .inr (k + (btw comma shN l).length, l) := by
  refine list_sh h0 h6 ?_ hv hs
  intro pre v post j e hj
  rw [e] at h
  unfold nmsG
  rw [name_sh (nms_at pre v post h) (At.one (show At L j (ptk v :: []) from hj)).1, bd_inr]
  rfl
theorem wh_sh {L : List Tk} {n k : Nat} {l : List Oq} (h : whF l = 0) (hv : At L k (whT l)) (hs : Stop L (k + (whT l).length) (goL ++ [sWHERE])) : whereF L n k = .inr (k + (whT l).length, l) := by
  unfold whT at hv hs ⊢
  unfold whF at h
  by_cases h0 : l.length = 0
  · rw [if_pos h0] at hs ⊢
    have hs : Stop L k (goL ++ [sWHERE]) := hs
    have : l = [] := List.length_eq_zero_iff.1 h0
    subst this
    unfold whereF
    rw [if_neg (by rw [hs sWHERE (by simp)]; simp)]
    rfl
  · rw [if_neg h0] at hv hs ⊢
    rw [if_neg h0] at h
    obtain ⟨g1, g2⟩ := At.one (show At L k (ptk sWHERE :: exT l) from hv)
    unfold whereF
    simp only [List.length_append, List.length_cons, List.length_nil] at hs ⊢
    rw [if_pos ((may_mt g1 _).trans (by decide)), exp_sh h g2 (hs.sub (by intro s hm; exact List.mem_append_left _ hm) |> fun x => by rw [show k + 1 + (exT l).length = k + (0 + 1 + (exT l).length) by omega]; exact x)]
    congr 2
    omega
theorem em_nil {t : ByteArray} (h : em t = true) : t = ⟨#[]⟩ := empty_of (List.isEmpty_iff.1 h)
theorem len0 {α : Type} {l : List α} (h : decide (0 < l.length) = false) : l = [] := by
  cases l with
  | nil => rfl
  | cons a l => simp at h
theorem more_ok {s : Sq} (h : moreF s = false) : (6 < s.k → s.t = ⟨#[]⟩) ∧ (s.k ≠ 1 → s.cols = []) ∧ (s.k ≠ 3 → s.row = []) ∧ (s.k ≠ 4 → s.names = [] ∧ s.cnt = false ∧ s.ord = ⟨#[]⟩ ∧ s.dn = false ∧ s.lim = -1) ∧ (s.k ≠ 5 → s.st = ⟨#[]⟩ ∧ s.to = []) ∧ (s.k ≠ 4 → s.k ≠ 5 → s.k ≠ 6 → s.wh = []) := by
  unfold moreF at h
  simp only [Bool.or_eq_false_iff] at h
  obtain ⟨⟨⟨⟨⟨h1, h2⟩, h3⟩, h4⟩, h5⟩, h6⟩ := h
  have nb : ∀ {j : Int}, s.k ≠ j → (!(s.k == j)) = true := fun hj => by simp [hj]
  refine ⟨fun hk => ?_, fun hk => ?_, fun hk => ?_, fun hk => ?_, fun hk => ?_, fun a b c => ?_⟩
  · rw [decide_eq_true hk, Bool.true_and] at h1
    exact em_nil (by simpa using h1)
  · rw [nb hk, Bool.true_and] at h2
    exact len0 h2
  · rw [nb hk, Bool.true_and] at h3
    exact len0 h3
  · rw [nb hk, Bool.true_and] at h4
    simp only [Bool.or_eq_false_iff] at h4
    obtain ⟨⟨⟨⟨a1, a2⟩, a3⟩, a4⟩, a5⟩ := h4
    exact ⟨len0 a1, a2, em_nil (by simpa using a3), a4, by simpa using a5⟩
  · rw [nb hk, Bool.true_and] at h5
    simp only [Bool.or_eq_false_iff] at h5
    exact ⟨em_nil (by simpa using h5.1), len0 h5.2⟩
  · rw [nb a, nb b, nb c] at h6
    exact len0 (by simpa using h6)
theorem next_stop {L : List Tk} {k : Nat} {l : List ByteArray} : ∀ (T : List Tk), At L k T → (T = [] → Stop L k l) → (∀ t r, T = t :: r → ∀ s ∈ l, mt t s = false) → Stop L k l
  | [], _, h, _ => h rfl
  | t :: r, hv, _, h => Stop.of hv.one.1 (h t r rfl)
theorem lim_sh {L : List Tk} {n k : Nat} {s : Sq} (h : -1 ≤ s.lim) (hv : At L k (limT s)) (hs : mayB L (k + (limT s).length) sLIMIT = false) : limitF L n k = .inr (k + (limT s).length, s.lim) := by
  unfold limT at hv hs ⊢
  by_cases h0 : 0 ≤ s.lim
  · rw [if_pos h0] at hv hs ⊢
    obtain ⟨g1, g2⟩ := hv.one
    obtain ⟨g2, _⟩ := g2.one
    unfold limitF numG
    rw [if_pos ((may_mt g1 _).trans (by decide)), g2]
    rfl
  · rw [if_neg h0] at hv hs ⊢
    unfold limitF
    have hs : mayB L k sLIMIT = false := hs
    rw [hs, show s.lim = -1 by omega]
    rfl
theorem ord_sh {L : List Tk} {n k : Nat} {s : Sq} (h : ordF s.ord = 0) (hd : ¬ (s.dn = true ∧ em s.ord = true)) (hv : At L k (ordT s ++ dnT s)) (hs : Stop L (k + (ordT s ++ dnT s).length) [sORDER, sDESC]) : orderF L n k = .inr (k + (ordT s ++ dnT s).length, s.ord, s.dn) := by
  unfold ordT dnT at hv hs ⊢
  unfold ordF at h
  by_cases he : em s.ord = true
  · have hdn : s.dn = false := by
      cases e : s.dn with
      | false => rfl
      | true => exact absurd ⟨e, he⟩ hd
    rw [if_pos he, hdn] at hv hs ⊢
    have hs : Stop L k [sORDER, sDESC] := hs
    unfold orderF
    rw [hs sORDER (by simp), em_nil he]
    rfl
  · rw [if_neg he] at hv hs h ⊢
    cases hdn : s.dn with
    | false =>
      rw [hdn] at hv hs
      obtain ⟨g1, g2⟩ := At.one (show At L k (ptk sORDER :: ptk sBY :: ptk s.ord :: []) from hv)
      obtain ⟨g2, g3⟩ := g2.one
      obtain ⟨g3, _⟩ := g3.one
      have hs : Stop L (k + 3) [sORDER, sDESC] := hs
      unfold orderF
      rw [if_pos ((may_mt g1 _).trans (by decide))]
      unfold mustF
      rw [if_pos ((may_mt g2 _).trans (by decide))]
      unfold mustF
      rw [bd_inr, name_sh h g3, bd_inr, if_neg (by rw [show k + 1 + 1 + 1 = k + 3 by omega, hs sDESC (by simp)]; simp)]
      rfl
    | true =>
      rw [hdn] at hv hs
      obtain ⟨g1, g2⟩ := At.one (show At L k (ptk sORDER :: ptk sBY :: ptk s.ord :: ptk sDESC :: []) from hv)
      obtain ⟨g2, g3⟩ := g2.one
      obtain ⟨g3, g4⟩ := g3.one
      obtain ⟨g4, _⟩ := g4.one
      unfold orderF
      rw [if_pos ((may_mt g1 _).trans (by decide))]
      unfold mustF
      rw [if_pos ((may_mt g2 _).trans (by decide))]
      unfold mustF
      rw [bd_inr, name_sh h g3, bd_inr, if_pos ((may_mt g4 _).trans (by decide))]
      rfl
/-- What stands behind SELECT. -/
def hdT (s : Sq) : List Tk := whatT s ++ btw comma shN s.names
theorem head_sh {L : List Tk} {n k : Nat} {s : Sq} (h : nmsF s.names = 0) (h6 : s.names.length ≤ 6) (hc : ¬ (s.cnt = true ∧ 0 < s.names.length)) (hv : At L k (hdT s)) (hs : mayB L (k + (hdT s).length) sComma = false) : headF L n k = .inr (k + (hdT s).length, s.names, s.cnt) := by
  unfold hdT whatT at hv hs ⊢
  cases hcn : s.cnt with
  | true =>
    have hn : s.names = [] := by
      cases e : s.names with
      | nil => rfl
      | cons a l => exact absurd ⟨hcn, by rw [e]; simp⟩ hc
    rw [hcn, hn] at hv hs
    obtain ⟨g1, g2⟩ := At.one (show At L k (ptk sCOUNT :: [sOpen, sStar, sClose].map ptk) from hv)
    have hm := must_sh (n := n) _ _ g2 (by intro x hx; simp only [List.mem_cons, List.not_mem_nil, or_false] at hx; rcases hx with rfl | rfl | rfl <;> decide)
    rw [hn]
    unfold headF
    rw [if_neg (by rw [may_mt g1]; decide), if_pos ((may_mt g1 _).trans (by decide)), hm]
    rfl
  | false =>
    rw [hcn] at hv hs
    by_cases h0 : s.names.length = 0
    · have hn : s.names = [] := List.length_eq_zero_iff.1 h0
      rw [hn] at hv hs ⊢
      obtain ⟨g1, _⟩ := At.one (show At L k (ptk sStar :: []) from hv)
      unfold headF
      rw [if_pos ((may_mt g1 _).trans (by decide))]
      rfl
    · simp only [Bool.false_eq_true, if_false, if_neg h0, List.nil_append] at hv hs ⊢
      have hne : s.names ≠ [] := fun e => h0 (by rw [e]; rfl)
      have hl := nms_sh (n := n) h hne h6 hv hs
      obtain ⟨x, r, hx⟩ := List.exists_cons_of_ne_nil hne
      have hx0 : nmF x.data.toList = 0 := nms_at [] x r (by rw [← hx]; exact h)
      have g1 : L.getD k tk0 = ptk x := by
        rw [hx] at hv
        exact (At.one (show At L k (ptk x :: r.flatMap fun y => comma ++ shN y) from hv)).1
      unfold headF
      rw [if_neg (by rw [may_mt g1, mt_name hx0 (by decide)]; simp), if_neg (by rw [may_mt g1, mt_name hx0 (by decide)]; simp), hl]
      rfl
theorem choose_sh {L : List Tk} {n : Nat} {s : Sq} (hk : s.k = 4) (hp : selF s = 0) (ht : nmF s.t.data.toList = 0) (hm : moreF s = false) (hv : At L 0 (selT s)) (hs : Stop L (selT s).length finL) : partF L n sq0 = .inr ((selT s).length, s) := by
  obtain ⟨h1, h2, h3, h4, h5, h6, h7⟩ := sel_zero hp
  have e : selT s = ptk sSELECT :: (hdT s ++ (ptk sFROM :: ptk s.t :: (whT s.wh ++ ((ordT s ++ dnT s) ++ limT s)))) := by
    unfold selT midT hdT
    simp [List.append_assoc]
  rw [e] at hv hs ⊢
  simp only [List.length_cons, List.length_append] at hs
  obtain ⟨g0, hv⟩ := hv.one
  obtain ⟨g1, hv⟩ := hv.app
  obtain ⟨g2, hv⟩ := hv.one
  obtain ⟨g3, hv⟩ := hv.one
  obtain ⟨g4, hv5⟩ := hv.app
  obtain ⟨g5, g6⟩ := hv5.app
  have sL : Stop L (0 + 1 + (hdT s).length + 1 + 1 + (whT s.wh).length + (ordT s ++ dnT s).length + (limT s).length) finL := by
    rw [List.length_append]
    rw [show 0 + 1 + (hdT s).length + 1 + 1 + (whT s.wh).length + ((ordT s).length + (dnT s).length) + (limT s).length = (hdT s).length + ((whT s.wh).length + ((ordT s).length + (dnT s).length + (limT s).length) + 1 + 1) + 1 by omega]
    exact hs
  have a1 := head_sh (n := n) h5 h1 h3 g1 ((may_mt g2 _).trans (by decide))
  have lT : ∀ t r, limT s = t :: r → t = ptk sLIMIT := by
    intro t r e
    unfold limT at e
    split at e
    · exact (List.cons.inj e).1.symm
    · cases e
  have oT : ∀ t r, ordT s ++ dnT s = t :: r → t = ptk sORDER := by
    intro t r e
    unfold ordT dnT at e
    by_cases he : em s.ord = true
    · have hdn : s.dn = false := by
        cases e : s.dn with
        | false => rfl
        | true => exact absurd ⟨e, he⟩ h4
      rw [if_pos he, hdn] at e
      cases e
    · rw [if_neg he] at e
      exact (List.cons.inj e).1.symm
  have s5 : Stop L (0 + 1 + (hdT s).length + 1 + 1 + (whT s.wh).length + (ordT s ++ dnT s).length) (goL ++ [sWHERE, sORDER, sDESC]) := by
    refine next_stop _ g6 (fun e => ?_) (fun t r e => ?_)
    · rw [e] at sL
      exact Stop.sub (show Stop L (0 + 1 + (hdT s).length + 1 + 1 + (whT s.wh).length + (ordT s ++ dnT s).length) finL from sL) (by
        intro x hx
        unfold finL
        simp only [List.mem_append, List.mem_cons, List.not_mem_nil, or_false] at hx ⊢
        rcases hx with hx | rfl | rfl | rfl <;> simp_all)
    · rw [lT t r e]
      decide
  have s4 : Stop L (0 + 1 + (hdT s).length + 1 + 1 + (whT s.wh).length) (goL ++ [sWHERE]) := by
    refine next_stop _ g5 (fun e => ?_) (fun t r e => ?_)
    · rw [e] at s5
      exact Stop.sub (show Stop L (0 + 1 + (hdT s).length + 1 + 1 + (whT s.wh).length) (goL ++ [sWHERE, sORDER, sDESC]) from s5) (by
        intro x hx
        simp only [List.mem_append, List.mem_cons, List.not_mem_nil, or_false] at hx ⊢
        rcases hx with hx | rfl <;> simp_all)
    · rw [oT t r e]
      decide
  have a2 := wh_sh (n := n) h6 g4 s4
  have a3 := ord_sh (n := n) h7 h4 g5 (s5.sub (by intro x hx; simp only [List.mem_append, List.mem_cons, List.not_mem_nil, or_false] at hx ⊢; rcases hx with rfl | rfl <;> simp))
  have a4 := lim_sh (n := n) h2 g6 (sL sLIMIT (by simp [finL]))
  obtain ⟨_, m1, m2, _, m3, _⟩ := more_ok hm
  obtain ⟨k, t, cols, row, names, cnt, wh, ord, dn, lim, st, tz⟩ := s
  dsimp only at hk ht h1 h2 h3 h4 h5 h6 h7 m1 m2 m3
  subst hk
  have m1 := m1 (by decide)
  have m2 := m2 (by decide)
  have m3 := m3 (by decide)
  obtain ⟨m3, m4⟩ := m3
  subst m1 m2 m3 m4
  unfold partF
  rw [if_neg (by rw [may_mt g0]; decide), if_neg (by rw [may_mt g0]; decide), if_neg (by rw [may_mt g0]; decide), if_pos ((may_mt g0 _).trans (by decide))]
  unfold chooseF
  simp only [Nat.zero_add] at a1 a2 a3 a4 g2 g3
  rw [a1, bd_inr]
  unfold mustF
  rw [if_pos ((may_mt g2 _).trans (by decide))]
  unfold mustF
  rw [bd_inr, name_sh ht g3, bd_inr]
  dsimp only at a2 a3 a4 ⊢
  rw [a2, bd_inr]
  dsimp only
  rw [a3, bd_inr]
  dsimp only
  rw [a4, bd_inr]
  simp only [sq0, List.length_cons, List.length_append]
  congr 2
  omega
theorem must1 {L : List Tk} {n k : Nat} {s : ByteArray} (h : mayB L k s = true) : mustF L n k [s] = .inr (k + 1) := by
  unfold mustF
  rw [if_pos h]
  rfl
theorem must2 {L : List Tk} {n k : Nat} {s t : ByteArray} (h : mayB L k s = true) (h2 : mayB L (k + 1) t = true) : mustF L n k [s, t] = .inr (k + 1 + 1) := by
  unfold mustF
  rw [if_pos h]
  exact must1 h2
theorem part_sh {L : List Tk} {n : Nat} {s : Sq} (h : st0 s = 0) (hv : At L 0 (shT s)) (hs : Stop L (shT s).length finL) : partF L n sq0 = .inr ((shT s).length, s) := by
  obtain ⟨k1, k9, ht, hp, hm⟩ := st0_ok h
  by_cases k4 : s.k = 4
  · have e : shT s = selT s := by unfold shT; rw [if_neg (by omega), if_neg (by omega), if_neg (by omega), if_pos k4]
    rw [e] at hv hs ⊢
    unfold partsF at hp
    rw [if_neg (by omega), if_neg (by omega), if_pos k4] at hp
    unfold tabF at ht
    rw [if_pos (by omega)] at ht
    exact choose_sh k4 hp ht hm hv hs
  · obtain ⟨m0, m1, m2, m3, m4, m5⟩ := more_ok hm
    obtain ⟨k, t, cols, row, names, cnt, wh, ord, dn, lim, st, tz⟩ := s
    dsimp only at k1 k9 k4 m0 m1 m2 m3 m4 m5
    obtain ⟨n1, n2, n3, n4, n5⟩ := m3 k4
    subst n1 n2 n3 n4 n5
    have hk : k = 1 ∨ k = 2 ∨ k = 3 ∨ k = 5 ∨ k = 6 ∨ k = 7 ∨ k = 8 ∨ k = 9 := by omega
    rcases hk with rfl | rfl | rfl | rfl | rfl | rfl | rfl | rfl
    · have ht : nmF t.data.toList = 0 := ht
      have hp : colsF cols = 0 := hp
      have x2 := m2 (by decide)
      obtain ⟨x4, x5⟩ := m4 (by decide)
      have x6 := m5 (by decide) (by decide) (by decide)
      subst x2 x4 x5 x6
      have hv : At L 0 (ptk sCREATE :: ptk sTABLE :: ptk t :: ptk sOpen :: (btw comma shC cols ++ [ptk sClose])) := hv
      obtain ⟨g0, hv⟩ := hv.one
      obtain ⟨g1, hv⟩ := hv.one
      obtain ⟨g2, hv⟩ := hv.one
      obtain ⟨g3, hv⟩ := hv.one
      obtain ⟨g4, hv⟩ := hv.app
      obtain ⟨g5, _⟩ := hv.one
      have a1 := col_sh (n := n) hp g4 ((may_mt g5 _).trans (by decide))
      unfold partF
      rw [if_pos ((may_mt g0 _).trans (by decide))]
      unfold createF
      rw [must1 ((may_mt g1 _).trans (by decide)), bd_inr, name_sh ht g2, bd_inr]
      dsimp only
      rw [must1 ((may_mt g3 _).trans (by decide)), bd_inr, show sq0.cols = [] from rfl, a1, bd_inr]
      dsimp only
      rw [must1 ((may_mt g5 _).trans (by decide)), bd_inr]
      simp only [sq0, shT, crT, List.length_cons, List.length_append, List.length_nil, if_true]
      congr 2
    · have ht : nmF t.data.toList = 0 := ht
      have x1 := m1 (by decide)
      have x2 := m2 (by decide)
      obtain ⟨x4, x5⟩ := m4 (by decide)
      have x6 := m5 (by decide) (by decide) (by decide)
      subst x1 x2 x4 x5 x6
      have hv : At L 0 (ptk sDROP :: ptk sTABLE :: ptk t :: []) := hv
      obtain ⟨g0, hv⟩ := hv.one
      obtain ⟨g1, hv⟩ := hv.one
      obtain ⟨g2, _⟩ := hv.one
      unfold partF
      rw [if_neg (by rw [may_mt g0]; decide), if_pos ((may_mt g0 _).trans (by decide))]
      unfold dropF
      unfold mustF
      rw [if_pos ((may_mt g1 _).trans (by decide))]
      unfold mustF
      rw [bd_inr, name_sh ht g2, bd_inr]
      rfl
    · have ht : nmF t.data.toList = 0 := ht
      have hp : insF row = 0 := hp
      have x1 := m1 (by decide)
      obtain ⟨x4, x5⟩ := m4 (by decide)
      have x6 := m5 (by decide) (by decide) (by decide)
      subst x1 x4 x5 x6
      have hv : At L 0 (ptk sINSERT :: ptk sINTO :: ptk t :: ptk sVALUES :: ptk sOpen :: (btw comma valT row ++ [ptk sClose])) := hv
      obtain ⟨g0, hv⟩ := hv.one
      obtain ⟨g1, hv⟩ := hv.one
      obtain ⟨g2, hv⟩ := hv.one
      obtain ⟨g3, hv⟩ := hv.one
      obtain ⟨g3', hv⟩ := hv.one
      obtain ⟨g4, hv⟩ := hv.app
      obtain ⟨g5, _⟩ := hv.one
      have a1 := val_sh (n := n) hp g4 ((may_mt g5 _).trans (by decide))
      unfold partF
      rw [if_neg (by rw [may_mt g0]; decide), if_neg (by rw [may_mt g0]; decide), if_pos ((may_mt g0 _).trans (by decide))]
      unfold insertF
      rw [must1 ((may_mt g1 _).trans (by decide)), bd_inr, name_sh ht g2, bd_inr]
      dsimp only
      rw [must2 ((may_mt g3 _).trans (by decide)) ((may_mt g3' _).trans (by decide)), bd_inr, show sq0.row = [] from rfl, a1, bd_inr]
      dsimp only
      rw [must1 ((may_mt g5 _).trans (by decide)), bd_inr]
      have e : (shT ⟨3, t, [], row, [], false, [], ⟨#[]⟩, false, -1, ⟨#[]⟩, []⟩).length = (btw comma valT row).length + 6 := by
        show ([ptk sINSERT, ptk sINTO, ptk t, ptk sVALUES, ptk sOpen] ++ (btw comma valT row ++ [ptk sClose])).length = _
        simp only [List.length_cons, List.length_append, List.length_nil]
        omega
      rw [e]
      simp only [sq0]
      congr 2
      omega
    · have ht : nmF t.data.toList = 0 := ht
      have hp : f3 (nmF st.data.toList) (exprF tz) (whF wh) = 0 := hp
      obtain ⟨p1, p2, p3⟩ := f3_zero hp
      have x1 := m1 (by decide)
      have x2 := m2 (by decide)
      subst x1 x2
      have hv : At L 0 (ptk sUPDATE :: ptk t :: ptk sSET :: ptk st :: ptk sEq :: (exT tz ++ whT wh)) := hv
      have e : (shT ⟨5, t, [], [], [], false, wh, ⟨#[]⟩, false, -1, st, tz⟩).length = 5 + (exT tz).length + (whT wh).length := by
        show ([ptk sUPDATE, ptk t, ptk sSET, ptk st, ptk sEq] ++ (exT tz ++ whT wh)).length = _
        simp only [List.length_cons, List.length_append, List.length_nil]
        omega
      rw [e] at hs ⊢
      obtain ⟨g0, hv⟩ := hv.one
      obtain ⟨g1, hv⟩ := hv.one
      obtain ⟨g2, hv⟩ := hv.one
      obtain ⟨g3, hv⟩ := hv.one
      obtain ⟨g3', hv⟩ := hv.one
      obtain ⟨g4, g5⟩ := hv.app
      have s2 : Stop L (0 + 1 + 1 + 1 + 1 + 1 + (exT tz).length) goL := by
        refine next_stop _ g5 (fun e => ?_) (fun x r e => ?_)
        · rw [e] at hs
          exact Stop.sub (show Stop L (5 + (exT tz).length) finL from hs) fin_go
        · unfold whT at e
          split at e
          · cases e
          · rw [← (List.cons.inj e).1]
            decide
      have a1 := exp_sh (n := n) p2 g4 s2
      have a2 := wh_sh (n := n) p3 g5 (hs.sub (by
        intro x hx
        unfold finL
        simp only [List.mem_append, List.mem_cons, List.not_mem_nil, or_false] at hx ⊢
        rcases hx with hx | rfl <;> simp_all))
      unfold partF
      rw [if_neg (by rw [may_mt g0]; decide), if_neg (by rw [may_mt g0]; decide), if_neg (by rw [may_mt g0]; decide), if_neg (by rw [may_mt g0]; decide), if_pos ((may_mt g0 _).trans (by decide))]
      unfold updateF
      rw [name_sh ht g1, bd_inr]
      dsimp only
      rw [must1 ((may_mt g2 _).trans (by decide)), bd_inr, name_sh p1 g3, bd_inr]
      dsimp only
      rw [must1 ((may_mt g3' _).trans (by decide)), bd_inr]
      simp only [Nat.zero_add] at a1 a2
      rw [a1, bd_inr]
      dsimp only
      rw [a2, bd_inr]
      rfl
    · have ht : nmF t.data.toList = 0 := ht
      have hp : whF wh = 0 := hp
      have x1 := m1 (by decide)
      have x2 := m2 (by decide)
      obtain ⟨x4, x5⟩ := m4 (by decide)
      subst x1 x2 x4 x5
      have hv : At L 0 (ptk sDELETE :: ptk sFROM :: ptk t :: whT wh) := hv
      have e : (shT ⟨6, t, [], [], [], false, wh, ⟨#[]⟩, false, -1, ⟨#[]⟩, []⟩).length = 3 + (whT wh).length := by
        show ([ptk sDELETE, ptk sFROM, ptk t] ++ whT wh).length = _
        simp only [List.length_cons, List.length_append, List.length_nil]
      rw [e] at hs ⊢
      obtain ⟨g0, hv⟩ := hv.one
      obtain ⟨g1, hv⟩ := hv.one
      obtain ⟨g2, g5⟩ := hv.one
      have a2 := wh_sh (n := n) hp g5 (hs.sub (by
        intro x hx
        unfold finL
        simp only [List.mem_append, List.mem_cons, List.not_mem_nil, or_false] at hx ⊢
        rcases hx with hx | rfl <;> simp_all))
      unfold partF
      rw [if_neg (by rw [may_mt g0]; decide), if_neg (by rw [may_mt g0]; decide), if_neg (by rw [may_mt g0]; decide), if_neg (by rw [may_mt g0]; decide), if_neg (by rw [may_mt g0]; decide), if_pos ((may_mt g0 _).trans (by decide))]
      unfold deleteF
      unfold mustF
      rw [if_pos ((may_mt g1 _).trans (by decide))]
      unfold mustF
      rw [bd_inr, name_sh ht g2, bd_inr]
      simp only [Nat.zero_add] at a2
      dsimp only
      rw [a2, bd_inr]
      rfl
    all_goals
      have x0 := m0 (by decide)
      have x1 := m1 (by decide)
      have x2 := m2 (by decide)
      obtain ⟨x4, x5⟩ := m4 (by decide)
      have x6 := m5 (by decide) (by decide) (by decide)
      subst x0 x1 x2 x4 x5 x6
      obtain ⟨g0, _⟩ := hv.one
      unfold partF
      rw [if_neg (by rw [may_mt g0]; decide), if_neg (by rw [may_mt g0]; decide), if_neg (by rw [may_mt g0]; decide), if_neg (by rw [may_mt g0]; decide), if_neg (by rw [may_mt g0]; decide), if_neg (by rw [may_mt g0]; decide)]
    · rw [if_pos ((may_mt g0 _).trans (by decide))]
      rfl
    · rw [if_neg (by rw [may_mt g0]; decide), if_pos ((may_mt g0 _).trans (by decide))]
      rfl
    · rw [if_neg (by rw [may_mt g0]; decide), if_neg (by rw [may_mt g0]; decide), if_pos ((may_mt g0 _).trans (by decide))]
      rfl
theorem at_self (L : List Tk) : At L 0 L := ⟨[], by simp⟩
theorem end_none (L : List Tk) : L.getD L.length tk0 = tk0 := by simp [List.getD, List.getElem?_eq_none (Nat.le_refl _)]
theorem end_stop (L : List Tk) (l : List ByteArray) : Stop L L.length l := Stop.of (end_none L) fun s _ => rfl
/-- A STATEMENT IS PARSED AS IT WAS SHOWN. -/
theorem stmt_sh {s : Sq} (h : st0 s = 0) : stmtF (shT s) (shT s).length = .inr s := by
  unfold stmtF
  rw [part_sh h (at_self _) (end_stop _ _), bd_inr, if_neg]
  obtain ⟨k1, k9, _⟩ := st0_ok h
  dsimp only
  omega
end Go.Proofs.YtdeollmeljaaoaaDoor.rd
/- What is shown are tokens that may be. Plain. -/
namespace Go.Proofs.YtdeollmeljaaoaaDoor.rd
open Go.Proofs.YtdeollmeljaaoaaDoor.cs
set_option linter.unusedVariables false
set_option linter.unusedSimpArgs false
set_option maxRecDepth 100000
abbrev TkOk (t : Tk) : Prop := tkF t.k t.t t.n = 0
def TksOk (l : List Tk) : Prop := ∀ t ∈ l, TkOk t
theorem TksOk.nil : TksOk [] := fun t h => by simp at h
theorem TksOk.cons {t : Tk} {l : List Tk} (h : TkOk t) (hl : TksOk l) : TksOk (t :: l) := fun x hx => by
  rcases List.mem_cons.1 hx with rfl | hx
  · exact h
  · exact hl x hx
theorem TksOk.app {l m : List Tk} (h : TksOk l) (hm : TksOk m) : TksOk (l ++ m) := fun x hx => by
  rcases List.mem_append.1 hx with hx | hx
  · exact h x hx
  · exact hm x hx
theorem ok_nm {t : ByteArray} (h : nmF t.data.toList = 0) : TkOk (ptk t) := by
  show tkF (ptk t).k (ptk t).t (ptk t).n = 0
  rw [ptk_k h]
  exact nm_tk h
theorem ok_num {x : Int} (h : 0 ≤ x) : TkOk ⟨2, [], x⟩ := tk_nu h
theorem ok_str (l : List UInt8) : TkOk ⟨3, l, 0⟩ := by
  show tkF 3 l 0 = 0
  unfold tkF txt
  simp
theorem ok_val {v : V} (h : Go.Proofs.YtdeollmeljaaoaaDoor.litF v.k v.n v.t = 0) : TksOk (valT v) := by
  unfold valT
  split
  · exact TksOk.nil.cons (ok_str _)
  · split
    · split
      · exact (TksOk.nil.cons (ok_num (by omega))).cons (by decide)
      · exact TksOk.nil.cons (ok_num (by omega))
    · split
      · exact TksOk.nil.cons (by decide)
      · split
        · exact TksOk.nil.cons (by decide)
        · exact TksOk.nil.cons (by decide)
theorem ok_leaf {o : Oq} (hw : wks o.k = 0) (h : opF o.k o.v.k o.v.n o.v.t o.t = 0) : TksOk (lfT o) := by
  have hk : o.k = 1 ∨ o.k = 2 := by
    unfold wks at hw
    split at hw
    · assumption
    · split at hw <;> omega
  unfold opF at h
  split at h
  · omega
  · split at h
    · omega
    · rename_i hl
      split at h
      · omega
      · unfold lfT
        rcases hk with hk | hk
        · rw [if_pos hk]
          exact ok_val (by simpa using hl)
        · rw [if_neg (by omega)]
          rw [if_pos hk] at h
          exact TksOk.nil.cons (ok_nm h)
theorem ok_tree : ∀ t : Tx, t.ok → TksOk (shX t)
  | .leaf o, h => ok_leaf h.1 h.2
  | .un o a, h => by
    have := ok_tree a h.2.2
    unfold shX onT
    split
    · exact TksOk.app (TksOk.cons (by decide) (TksOk.cons (by decide) TksOk.nil)) (this.app (TksOk.cons (by decide) TksOk.nil))
    · exact TksOk.app (TksOk.cons (by decide) TksOk.nil) (this.app (TksOk.cons (by decide) (TksOk.cons (by decide) (TksOk.cons (by decide) TksOk.nil))))
  | .bi o a b, h => by
    obtain ⟨hw, hf, hta, htb⟩ := h
    have ha := ok_tree a hta
    have hb := ok_tree b htb
    have hk : o.k ≠ 1 ∧ o.k ≠ 2 ∧ o.k ≠ 5 ∧ o.k ≠ 11 := by
      unfold wks at hw
      split at hw
      · omega
      · split at hw <;> omega
    obtain ⟨q, rfl, hq1, hq2⟩ := op_nul hf (by omega) (by omega)
    have hk : q = 3 ∨ q = 4 ∨ q = 6 ∨ q = 7 ∨ q = 8 ∨ q = 9 ∨ q = 10 := by simp only [opO] at hk; omega
    have hs : TkOk (ptk (sgT q)) := by rcases hk with rfl | rfl | rfl | rfl | rfl | rfl | rfl <;> decide
    exact TksOk.app (TksOk.cons (by decide) TksOk.nil) (ha.app (TksOk.app (TksOk.cons hs TksOk.nil) (hb.app (TksOk.cons (by decide) TksOk.nil))))
theorem ok_exp {l : List Oq} (h : exprF l = 0) : TksOk (exT l) := by
  obtain ⟨h1, t, h2, rfl⟩ := expr_tree h
  rw [exT_tree h2]
  exact ok_tree t h2
theorem ok_wh {l : List Oq} (h : whF l = 0) : TksOk (whT l) := by
  unfold whT
  unfold whF at h
  by_cases h0 : l.length = 0
  · rw [if_pos h0]; exact TksOk.nil
  · rw [if_neg h0] at h ⊢
    exact TksOk.app (TksOk.cons (by decide) TksOk.nil) (ok_exp h)
theorem ok_btw {α : Type} {f : α → List Tk} : ∀ {l : List α}, (∀ x ∈ l, TksOk (f x)) → TksOk (btw comma f l)
  | [], _ => TksOk.nil
  | x :: r, h => by
    unfold btw
    refine (h x (by simp)).app fun t ht => ?_
    obtain ⟨y, hy, hm⟩ := List.mem_flatMap.1 ht
    rcases List.mem_append.1 hm with hm | hm
    · simp only [comma, List.mem_singleton] at hm
      subst hm
      decide
    · exact h y (by simp [hy]) t hm
theorem ok_shown {s : Sq} (h : st0 s = 0) : TksOk (shT s) := by
  obtain ⟨k1, k9, ht, hp, hm⟩ := st0_ok h
  unfold tabF at ht
  unfold partsF at hp
  unfold shT
  by_cases e1 : s.k = 1
  · rw [if_pos (by omega)] at ht
    rw [if_pos e1] at hp ⊢
    unfold crT
    refine TksOk.app (TksOk.cons (by decide) (TksOk.cons (by decide) (TksOk.cons (ok_nm ht) (TksOk.cons (by decide) TksOk.nil)))) ((ok_btw fun c hc => ?_).app (TksOk.cons (by decide) TksOk.nil))
    obtain ⟨g, _⟩ := colsF_ok hp
    obtain ⟨g1, g2, g3⟩ := g c hc
    refine TksOk.cons (ok_nm g1) (TksOk.cons ?_ TksOk.nil)
    obtain ⟨ct, ck⟩ := c
    dsimp only at g2 g3 ⊢
    have : ck = 1 ∨ ck = 2 ∨ ck = 3 := by omega
    rcases this with rfl | rfl | rfl <;> decide
  · rw [if_neg e1] at hp ⊢
    by_cases e2 : s.k = 2
    · rw [if_pos (by omega)] at ht
      rw [if_pos e2]
      exact TksOk.cons (by decide) (TksOk.cons (by decide) (TksOk.cons (ok_nm ht) TksOk.nil))
    · rw [if_neg e2]
      by_cases e3 : s.k = 3
      · rw [if_pos (by omega)] at ht
        rw [if_pos e3] at hp ⊢
        unfold insF at hp
        split at hp
        · omega
        · refine TksOk.app (TksOk.cons (by decide) (TksOk.cons (by decide) (TksOk.cons (ok_nm ht) (TksOk.cons (by decide) (TksOk.cons (by decide) TksOk.nil))))) ((ok_btw fun v hv => ?_).app (TksOk.cons (by decide) TksOk.nil))
          obtain ⟨a, b, e⟩ := List.append_of_mem hv
          rw [e] at hp
          exact ok_val (row_at a v b hp)
      · rw [if_neg e3] at hp ⊢
        by_cases e4 : s.k = 4
        · rw [if_pos (by omega)] at ht
          rw [if_pos e4] at hp ⊢
          obtain ⟨h1, h2, h3, h4, h5, h6, h7⟩ := sel_zero hp
          unfold selT midT
          refine ((TksOk.app (TksOk.app (TksOk.cons (by decide) TksOk.nil) ?_) ((ok_btw fun v hv => ?_).app (TksOk.app (TksOk.cons (by decide) (TksOk.cons (ok_nm ht) TksOk.nil)) (ok_wh h6)))).app ?_).app ?_ |>.app ?_
          · unfold whatT
            split
            · exact TksOk.cons (by decide) (TksOk.cons (by decide) (TksOk.cons (by decide) (TksOk.cons (by decide) TksOk.nil)))
            · split
              · exact TksOk.cons (by decide) TksOk.nil
              · exact TksOk.nil
          · obtain ⟨a, b, e⟩ := List.append_of_mem hv
            rw [e] at h5
            exact TksOk.cons (ok_nm (nms_at a v b h5)) TksOk.nil
          · unfold ordT
            unfold ordF at h7
            split
            · exact TksOk.nil
            · rename_i he
              rw [if_neg he] at h7
              exact TksOk.cons (by decide) (TksOk.cons (by decide) (TksOk.cons (ok_nm h7) TksOk.nil))
          · unfold dnT
            split
            · exact TksOk.cons (by decide) TksOk.nil
            · exact TksOk.nil
          · unfold limT
            split
            · exact TksOk.cons (by decide) (TksOk.cons (ok_num (by assumption)) TksOk.nil)
            · exact TksOk.nil
        · rw [if_neg e4] at hp ⊢
          by_cases e5 : s.k = 5
          · rw [if_pos (by omega)] at ht
            rw [if_pos e5] at hp ⊢
            obtain ⟨p1, p2, p3⟩ := f3_zero hp
            exact TksOk.app (TksOk.cons (by decide) (TksOk.cons (ok_nm ht) (TksOk.cons (by decide) (TksOk.cons (ok_nm p1) (TksOk.cons (by decide) TksOk.nil))))) ((ok_exp p2).app (ok_wh p3))
          · rw [if_neg e5] at hp ⊢
            by_cases e6 : s.k = 6
            · rw [if_pos (by omega)] at ht
              rw [if_pos e6] at hp ⊢
              exact TksOk.app (TksOk.cons (by decide) (TksOk.cons (by decide) (TksOk.cons (ok_nm ht) TksOk.nil))) (ok_wh hp)
            · rw [if_neg e6]
              split
              · exact TksOk.cons (by decide) TksOk.nil
              · split
                · exact TksOk.cons (by decide) TksOk.nil
                · exact TksOk.cons (by decide) TksOk.nil
/-- A STATEMENT IS PARSED AS IT WAS SHOWN. -/
theorem parse_shown {s : Sq} (h : stF s = 0) : parseF (shT s) = (s, 0, 0) := by
  unfold stF at h
  split at h
  · omega
  · rename_i h0
    split at h
    · omega
    · have h0 : st0 s = 0 := by simpa using h0
      exact parse_good (by omega) (ok_shown h0) (stmt_sh h0)
end Go.Proofs.YtdeollmeljaaoaaDoor.rd
