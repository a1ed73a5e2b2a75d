/- The entries of a tree, by the document. -/
import Derived.Test.YtahammkjkfdmhaaIz
namespace Go.Proofs.Ytahammkjkfdmhaa
open Go.ChangeShapes Go.WideShapes Go.ChangeAt Go.RowKit
set_option linter.unusedVariables false
set_option linter.unusedSimpArgs false
set_option maxHeartbeats 2000000
theorem kw_all {α : Type} {W : Key → Key → α → Prop} : ∀ (l : List (Key × α)) (lo hi : Key) (c : α), kwT W lo hi c l → (∃ lo' hi', W lo' hi' c) ∧ ∀ x ∈ l, ∃ lo' hi', W lo' hi' x.2
  | [], lo, hi, c, h => ⟨⟨_, _, h⟩, by simp⟩
  | (s, d) :: r, lo, hi, c, h => by
    obtain ⟨h1, h2, h3, h4, h5⟩ := h
    obtain ⟨g1, g2⟩ := kw_all r s hi d h5
    refine ⟨⟨_, _, h1⟩, fun x hx => ?_⟩
    rcases List.mem_cons.1 hx with rfl | hx
    · exact g1
    · exact g2 x hx
theorem flat_le {α β γ : Type} (f : α → List β) (g : α → List γ) : ∀ (l : List α), (∀ x ∈ l, (f x).length ≤ 4 * (g x).length) → (l.map f).flatten.length ≤ 4 * (l.map g).flatten.length
  | [], _ => by simp
  | x :: l, h => by
    have h1 := h x (by simp)
    have h2 := flat_le f g l (fun y hy => h y (by simp [hy]))
    simp only [List.map_cons, List.flatten_cons, List.length_append]
    omega
theorem mem_len {α β : Type} (g : α → List β) : ∀ (l : List α) (x : α), x ∈ l → (g x).length ≤ (l.map g).flatten.length
  | y :: l, x, h => by
    simp only [List.map_cons, List.flatten_cons, List.length_append]
    rcases List.mem_cons.1 h with rfl | h
    · omega
    · have := mem_len g l x h
      omega
theorem ent_ids : ∀ (h : Nat) (lo hi : Key) (t : Tb h), wfT h lo hi t → (entT h t).length ≤ 4 * (idsT h t).length
  | 0, lo, hi, t, hw => by
    have := hw.1
    simp only [entT, idsT, List.length_cons, List.length_nil]
    omega
  | h + 1, lo, hi, t, hw => by
    obtain ⟨h1, h2, h3⟩ := hw
    obtain ⟨⟨l1, l2, g1⟩, g2⟩ := kw_all _ _ _ _ h3
    have e1 := ent_ids h l1 l2 _ g1
    have e2 := flat_le (fun x : Key × Tb h => entT h x.2) (fun x => idsT h x.2) t.2.2 (fun x hx => by obtain ⟨a, b, g⟩ := g2 x hx; exact ent_ids h a b _ g)
    simp only [entT, idsT, List.length_cons, List.length_append]
    omega
theorem ents_any : ∀ (h : Nat) (lo hi hi' : Key) (rs : List Int) (t : Tb h) (w : World) (ok : Nat → Prop) (_ : ∀ b, ok b → b < w.heap.size) (tv : Value) (T : Tr) (_ : RT w ok tv T) (_ : repT T.pages h hi rs t) (_ : wfT h lo hi' t) (_ : T.pages.length ≤ 4000) (_ : (idsT h t).length ≤ 100000),
    Calls Try.prog 53 #[tv, .int .i64 (idT h t : Int)] w (EntsIs (entT h t) w)
  | 0, lo, hi, hi', rs, t, w, ok, hok, tv, T, ht, hr, hw, hn, hids => by
    exact ents_leaf w ok hok tv T ht t.1 t.2 hi _ hr (by have := hw.1; omega) (fun e he => by have := (hw.2.2 e he).2.1.2; omega) hn
  | h + 1, lo, hi, hi', rs, t, w, ok, hok, tv, T, ht, hr, hw, hn, hids => by
    have hlen := ent_ids (h + 1) lo hi' t hw
    obtain ⟨h1, h2, h3⟩ := hw
    obtain ⟨q1, q2⟩ := hr
    obtain ⟨k0, k2⟩ := kw_all _ _ _ _ h3
    obtain ⟨r0, r2⟩ := repK_all (q := fun c => ∃ hi rs, repT T.pages h hi rs c) (fun hi rs c g => ⟨hi, rs, g⟩) _ _ _ _ q2
    obtain ⟨cl, hcl⟩ : ∃ cl, cl = t.2.1 :: t.2.2.map (·.2) := ⟨_, rfl⟩
    have hds : (idT h t.2.1 : Int) :: t.2.2.map (fun x => (idT h x.2 : Int)) = cl.map (fun c => (idT h c : Int)) := by rw [hcl]; simp
    have hls : entT (h + 1) t = (cl.map (entT h)).flatten := by rw [hcl]; simp [entT, Function.comp_def]
    have hi2 : idsT (h + 1) t = t.1 :: (cl.map (idsT h)).flatten := by rw [hcl]; simp [idsT, Function.comp_def]
    have hall : ∀ c ∈ cl, (∃ lo hi, wfT h lo hi c) ∧ ∃ hi rs, repT T.pages h hi rs c := by
      intro c hc
      rw [hcl] at hc
      rcases List.mem_cons.1 hc with rfl | hc
      · exact ⟨k0, r0⟩
      · obtain ⟨x, hx, rfl⟩ := List.mem_map.1 hc
        exact ⟨k2 x hx, r2 x hx⟩
    have hcn : cl.length ≤ 5 := by rw [hcl]; simp; omega
    rw [hds] at q1
    rw [hls]
    refine ents_node w ok hok tv T ht t.1 _ (cl.map (fun c => (idT h c : Int))) (cl.map (entT h)) hi _ q1 (by simp) (by rw [← hls]; omega) (by simp; omega) hn fun W j hW hj => ?_
    have hjc : j < cl.length := by simpa using hj
    have e1 : (cl.map (fun c => (idT h c : Int))).getD j 0 = (idT h cl[j] : Int) := by simp [List.getD, hjc]
    have e2 : (cl.map (entT h)).getD j [] = entT h cl[j] := by simp [List.getD, hjc]
    rw [e1, e2]
    obtain ⟨⟨a, b, g1⟩, c, d, g2⟩ := hall cl[j] (List.getElem_mem hjc)
    have hm := mem_len (idsT h) cl cl[j] (List.getElem_mem hjc)
    rw [hi2, List.length_cons] at hids
    exact ents_any h a c b d cl[j] W ok (fun x hx => by have := hok x hx; have := hW.size; omega) tv T (ht.below hW) g2 g1 hn (by omega)
theorem entriesOf_any (w : World) (ok : Nat → Prop) (hok : ∀ b, ok b → b < w.heap.size) (tv : Value) (T : Tr) (ht : RT w ok tv T) (h : Nat) (t : Tb h) (hr : Reps T h t) (hn : T.pages.length ≤ 4000) :
    Calls Try.prog 38 #[tv] w (EntsIs (entT h t) w) := by
  obtain ⟨a1, n1, c1, rfl⟩ := rt_shape ht
  obtain ⟨r1, r2, r3, r4⟩ := hr
  have hids : (idsT h t).length ≤ 100000 := by rw [r4.length_eq, List.length_range]; omega
  have hc := fun (W : World) (hB : Below w.heap.size w W) => ents_any h [] [] [] [] t W ok (fun b hb' => by have := hok b hb'; have := hB.size; omega) _ T (ht.below hB) r2 r3 hn hids
  have HC := Lib.hid hc
  have HR := Lib.hid r1
  clear hc ht r1 r2 r3 r4 hids
  go_enter Try.func38, Try.ntmps38
  go_wp2_with fail
  have hb0 : Below w.heap.size w (w.alloc (.cells #[.slice a1 n1 c1, .int .i64 T.root] 24)) := (Below.refl _ _).alloc (Nat.le_refl _) _
  have hcc := HC.out _ hb0
  rw [← HR.out] at hcc
  refine hcc.mono ?_
  rintro e w2 ⟨v, cs, rfl, h1, h2, hb2, h3⟩
  have h1' := own_mono h1 (B' := w.heap.size) (by simp)
  have h2' := h2.mono (ok' := KeyOn w.heap.size w2 v) (fun b hb => ⟨by have := hb.1; simp at this; omega, hb.2⟩)
  have H1 := Lib.hid h1'
  have H2 := Lib.hid h2'
  have H3 := Lib.hid h3
  have HB := Lib.hid (into hb0 hb2)
  clear h1 h2 h1' h2' h3 hb2 hcc hb0
  go_wp2_with fail
  go_ret
  exact ⟨v, cs, rfl, H1.out, H2.out, HB.out, H3.out⟩
end Go.Proofs.Ytahammkjkfdmhaa
