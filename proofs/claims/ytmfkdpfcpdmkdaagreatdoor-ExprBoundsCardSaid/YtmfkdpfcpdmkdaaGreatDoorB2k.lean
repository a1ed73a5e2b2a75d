import Derived.Test.YtmfkdpfcpdmkdaaGreatDoorBfk
import Derived.Test.YtmfkdpfcpdmkdaaGreatDoorB0k
import Derived.Deep.Slices
import Derived.Deep.Fields
import Derived.SizedLaws
import Derived.Test.YtmfkdpfcpdmkdaaGreatDoorSak
/- What an argument that is a slice reads as. -/
namespace Go.Proofs.YtmfkdpfcpdmkdaaGreatDoor
open Go.ChangeShapes Go.WideShapes Go.ChangeAt Go.RowKit Go.Deep
set_option linter.unusedVariables false
set_option linter.unusedSimpArgs false
section
variable {H : Type} {enc : TypeId × Value → H} {P : Program} {w : World} {base : Nat} {spare : Nat → Bool} {held : Bool}
/-- A slice of bytes. -/
theorem open_by {t e : TypeId} {b0 : Nat} {r : Reach} {v : Value} {d : DataW H} {p : List MemPlace} (ht : P.underlying t = some (.slice e)) (he : P.underlying e = some (.int .u8)) (hC : P.cellsOf e = 1) (hv : Value.okWide P w r b0 t v) (h : DataW.Trod enc P w base spare held t v d p) :
    ∃ (n : Nat) (l : List UInt8), Rd w 1 n v (bc l) ∧ (n = 0 ∨ ∃ es sp, d = .slice es sp ∧ es.length = n) := by
  obtain ⟨a0, len, cap, rfl⟩ := okWide_slice ht hv
  obtain ⟨fuel, hf⟩ := h
  rcases open_ints ht he hC hf with ⟨hcs, hx⟩ | ⟨a, len', cap', zs, hcs, _, hl, hm, hz, hx, hcell, hwz⟩
  · simp [Value.cells] at hcs
    obtain ⟨rfl, rfl, rfl⟩ := hcs
    exact ⟨0, [], by simpa [bc] using Rd.nil w 1, .inl rfl⟩
  · simp [Value.cells] at hcs
    obtain ⟨rfl, rfl, rfl⟩ := hcs
    have hle : len ≤ zs.length := by rw [hz]; split <;> omega
    refine ⟨len, (zs.take len).map fun n => UInt8.ofNat n.toNat, ⟨by simp [bc_length]; omega, some a, cap, rfl, hl, hm, (fun h => by cases h), fun b hb j u hu => ?_⟩, ?_⟩
    · obtain rfl := Option.some.inj hb
      have hj : j < len := by
        have := (List.getElem?_eq_some_iff.1 hu).1
        simp [bc_length] at this
        omega
      have hjz : j < zs.length := by omega
      have hw := hwz zs[j] (List.getElem_mem hjz)
      simp only [Lit.wf, Bool.and_eq_true, decide_eq_true_eq] at hw
      have hw1 : 0 ≤ zs[j] := by have := hw.1; simp [IntKind.min, IntKind.signed, IntKind.bits] at this; omega
      have hw2 : zs[j] < 256 := by have := hw.2; simp [IntKind.max, IntKind.signed, IntKind.bits] at this; omega
      rw [hcell j hjz]
      simp [bc, List.getElem?_take, hj, hjz] at hu
      subst hu
      simp [List.getD, hjz]
      omega
    · simp only [Prod.mk.injEq] at hx
      refine .inr ⟨_, _, hx.1, ?_⟩
      simp [lits]
      omega
end
end Go.Proofs.YtmfkdpfcpdmkdaaGreatDoor
/- Words on trees in memory: lists of keys, pages, trees; what an argument of such a type reads as. -/
namespace Go.Proofs.YtmfkdpfcpdmkdaaGreatDoor
open Go.ChangeShapes Go.WideShapes Go.ChangeAt Go.RowKit Go.Deep
set_option linter.unusedVariables false
set_option linter.unusedSimpArgs false
set_option maxHeartbeats 400000
/-- A page, and a tree. -/
structure Pg where
  leaf : Bool
  keys : List (List UInt8)
  kids : List Int
  high : List UInt8
  next : Int
structure Tr where
  pages : List Pg
  root : Int
def ic (l : List Int) : List Value := l.map (.int .i64)
theorem ic_length (l : List Int) : (ic l).length = l.length := by simp [ic]
theorem ic_at {l : List Int} {k : Nat} (h : k < l.length) : (ic l)[k]? = some (.int .i64 (l.getD k 0)) := by simp [ic, List.getD, h]
theorem ic_one (l : List Int) : ∀ u ∈ ic l, u.oneCell' = true := by
  intro u hu
  obtain ⟨n, _, rfl⟩ := List.mem_map.1 hu
  rfl
theorem ic_app (l m : List Int) : ic (l ++ m) = ic l ++ ic m := by simp [ic]
/-- What lies behind the slice lies in blocks of which ok holds. -/
def At (ok : Nat → Prop) (v : Value) : Prop := ∀ a n c, v = .slice (some a) n c → 0 < n → ok a.block
/-- Bytes, numbers, keys. -/
def RB (w : World) (ok : Nat → Prop) (v : Value) (l : List UInt8) : Prop := Rd w 1 l.length v (bc l) ∧ At ok v
def RI (w : World) (ok : Nat → Prop) (v : Value) (l : List Int) : Prop := Rd w 1 l.length v (ic l) ∧ At ok v
def RK (w : World) (ok : Nat → Prop) (v : Value) (ks : List (List UInt8)) : Prop :=
  ∃ vs : List Value, Rd w 1 ks.length v vs ∧ At ok v ∧ ∀ (i : Nat) (k : List UInt8), ks[i]? = some k → ∃ x, vs[i]? = some x ∧ RB w ok x k
/-- The five cells of a page. -/
def RP (w : World) (ok : Nat → Prop) (cs : List Value) (p : Pg) : Prop :=
  ∃ k d h, cs = [.bool p.leaf, k, d, h, .int .i64 p.next] ∧ RK w ok k p.keys ∧ RI w ok d p.kids ∧ RB w ok h p.high
/-- The cells of pages. -/
def RPs (w : World) (ok : Nat → Prop) (vs : List Value) (ps : List Pg) : Prop :=
  vs.length = ps.length * 5 ∧ ∀ (i : Nat) (p : Pg), ps[i]? = some p → RP w ok ((vs.drop (i * 5)).take 5) p
/-- A tree. -/
def RT (w : World) (ok : Nat → Prop) (v : Value) (t : Tr) : Prop :=
  ∃ s vs, v = .agg #[s, .int .i64 t.root] ∧ Rd w 5 t.pages.length s vs ∧ At ok s ∧ RPs w ok vs t.pages
/-- On the blocks of which ok holds the world w' is as w was. -/
def Agree (ok : Nat → Prop) (w w' : World) : Prop := ∀ b, ok b → b < w.heap.size → w'.heap[b]? = w.heap[b]?
theorem Agree.below {w w' : World} (hb : Below w.heap.size w w') (ok : Nat → Prop) : Agree ok w w' := fun b _ h => hb.block b h
theorem Rd.agree {w w' : World} {ok : Nat → Prop} {s n : Nat} {v : Value} {xs : List Value} (h : Rd w s n v xs) (hat : At ok v) (hag : Agree ok w w') : Rd w' s n v xs := by
  obtain ⟨h1, ao, cap, rfl, h3, h4, h5, h6⟩ := h
  refine ⟨h1, ao, cap, rfl, h3, h4, h5, fun a ha j u hu => ?_⟩
  have hc := h6 a ha j u hu
  have hn : 0 < n := by
    rcases Nat.eq_zero_or_pos n with h0 | h0
    · subst h0
      have hj := (List.getElem?_eq_some_iff.1 hu).1
      omega
    · exact h0
  have hblk : (a.add j).block = a.block := by unfold Addr.add; split <;> rfl
  have hlt := lt_cell hc
  rw [hblk] at hlt
  have e := hag a.block (hat a n cap (by rw [ha]) hn) hlt
  rw [← hc]
  exact World.cell?_of_block (w := w) (by rw [hblk]; exact e)
theorem RB.agree {w w' : World} {ok : Nat → Prop} {v : Value} {l : List UInt8} (h : RB w ok v l) (hag : Agree ok w w') : RB w' ok v l := ⟨h.1.agree h.2 hag, h.2⟩
theorem RI.agree {w w' : World} {ok : Nat → Prop} {v : Value} {l : List Int} (h : RI w ok v l) (hag : Agree ok w w') : RI w' ok v l := ⟨h.1.agree h.2 hag, h.2⟩
theorem RK.agree {w w' : World} {ok : Nat → Prop} {v : Value} {l : List (List UInt8)} (h : RK w ok v l) (hag : Agree ok w w') : RK w' ok v l := by
  obtain ⟨vs, h1, h2, h3⟩ := h
  exact ⟨vs, h1.agree h2 hag, h2, fun i k hk => by obtain ⟨x, hx, hr⟩ := h3 i k hk; exact ⟨x, hx, hr.agree hag⟩⟩
theorem RP.agree {w w' : World} {ok : Nat → Prop} {cs : List Value} {p : Pg} (h : RP w ok cs p) (hag : Agree ok w w') : RP w' ok cs p := by
  obtain ⟨k, d, g, h0, h1, h2, h3⟩ := h
  exact ⟨k, d, g, h0, h1.agree hag, h2.agree hag, h3.agree hag⟩
theorem RPs.agree {w w' : World} {ok : Nat → Prop} {vs : List Value} {ps : List Pg} (h : RPs w ok vs ps) (hag : Agree ok w w') : RPs w' ok vs ps := ⟨h.1, fun i p hp => (h.2 i p hp).agree hag⟩
theorem RT.agree {w w' : World} {ok : Nat → Prop} {v : Value} {t : Tr} (h : RT w ok v t) (hag : Agree ok w w') : RT w' ok v t := by
  obtain ⟨s, vs, h0, h1, h2, h3⟩ := h
  exact ⟨s, vs, h0, h1.agree h2 hag, h2, h3.agree hag⟩
/-- What is read lies in blocks that are there. -/
theorem Rd.at_lt {w : World} {s n : Nat} {v : Value} {xs : List Value} (h : Rd w s n v xs) (hs : 0 < s) : At (fun b => b < w.heap.size) v := by
  intro a m c hv hm
  obtain ⟨h1, ao, cap, hv', h3, h4, h5, h6⟩ := h
  rw [hv] at hv'
  simp only [Value.slice.injEq] at hv'
  obtain ⟨ha, rfl, rfl⟩ := hv'
  have hx : 0 < xs.length := by rw [h1]; exact Nat.mul_pos hm hs
  have h0 := h6 a ha.symm 0 xs[0] (List.getElem?_eq_getElem hx)
  have := lt_cell h0
  have hblk : (a.add 0).block = a.block := by unfold Addr.add; split <;> rfl
  rw [hblk] at this
  exact this
section
variable {H : Type} {enc : TypeId × Value → H} {P : Program} {w : World} {base : Nat} {held : Bool}
abbrev old (w : World) : Nat → Prop := fun b => b < w.heap.size
abbrev small (P : Program) (t : TypeId) (d : DataW H) : Prop := ∀ n ∈ d.weights P t, n ≤ reachBytes
theorem weights_all {e : TypeId} : ∀ {l : List (DataW H)} {d : DataW H}, d ∈ l → ∀ n ∈ d.weights P e, n ∈ DataW.weightsAll P e l
  | x :: l, d, hd, n, hn => by
    simp only [DataW.weightsAll, List.mem_append]
    simp only [List.mem_cons] at hd
    rcases hd with rfl | hd
    · exact .inl hn
    · exact .inr (weights_all hd n hn)
/-- A slice whose elements are read one by one. -/
theorem open_rows {t e : TypeId} {fuel C : Nat} {cs : List Value} {x : DataW H × List MemPlace} (ht : P.underlying t = some (.slice e)) (hC : P.cellsOf e = C) (hC0 : 0 < C)
    (h : DataW.trod enc P w base (fun _ => true) held fuel t cs = some x) (hs : small P t x.1) {R : List Value → Prop}
    (hR : ∀ (n : Nat) (cs' : List Value) (y : DataW H × List MemPlace), DataW.trod enc P w base (fun _ => true) held n e cs' = some y → small P e y.1 → R cs') :
    ∃ (v : Value) (n : Nat) (vs : List Value), cs = [v] ∧ Rd w C n v vs ∧ n * P.bytesOf e ≤ reachBytes ∧ ∀ i, i < n → R ((vs.drop (i * C)).take C) := by
  rcases open_slice ht h with ⟨rfl, hx⟩ | ⟨a, len, cap, m, n, D, Pl, rfl, _, hl, hm, hmm, hx, hi⟩
  · exact ⟨_, 0, [], rfl, Rd.nil w C, by simp, fun i hi => by omega⟩
  · simp only [if_true] at hmm
    subst hmm
    have each : ∀ i, ∃ cs' : List Value, i < len → cs'.length = C ∧ (∀ j, j < C → w.cell? (a.add (i * C + j)) = cs'[j]?) ∧ R cs' := by
      intro i
      by_cases hil : i < len
      · obtain ⟨cs', hc, htr⟩ := hi i (by omega)
        rw [hC] at hc
        obtain ⟨_, hlen, hat⟩ := World.cells?_some hc
        refine ⟨cs', fun _ => ⟨hlen, fun j hj => ?_, hR _ _ _ htr ?_⟩⟩
        · rw [← add_add]; exact hat j hj
        · intro q hq
          refine hs q ?_
          rw [hx]
          simp only [DataW.weights, ht]
          refine List.mem_cons_of_mem _ (List.mem_append_left _ (weights_all (d := D i) ?_ q hq))
          exact List.mem_map.2 ⟨i, List.mem_range.2 hil, rfl⟩
      · exact ⟨[], fun h => absurd h hil⟩
    obtain ⟨f, hf⟩ := Classical.axiomOfChoice each
    have hlenf : ∀ k, k ≤ len → (((List.range k).map f).flatten).length = k * C := by
      intro k
      induction k with
      | zero => simp
      | succ k ih =>
        intro hk
        rw [List.range_succ, List.map_append, List.flatten_append, List.length_append, ih (by omega)]
        simp only [List.map_cons, List.map_nil, List.flatten_cons, List.flatten_nil, List.append_nil]
        rw [(hf k (by omega)).1, Nat.succ_mul]
    have hcut : ∀ k, k ≤ len → ∀ i, i < k → ((((List.range k).map f).flatten).drop (i * C)).take C = f i := by
      intro k
      induction k with
      | zero => intro _ i hi'; omega
      | succ k ih =>
        intro hk i hi'
        rw [List.range_succ, List.map_append, List.flatten_append]
        simp only [List.map_cons, List.map_nil, List.flatten_cons, List.flatten_nil, List.append_nil]
        have hL := hlenf k (by omega)
        rcases Nat.lt_or_ge i k with hik | hik
        · have h1 : i * C + C ≤ k * C := by
            rw [← Nat.succ_mul]; exact Nat.mul_le_mul_right _ hik
          rw [List.drop_append_of_le_length (by omega), List.take_append_of_le_length (by rw [List.length_drop]; omega)]
          exact ih (by omega) i hik
        · obtain rfl : i = k := by omega
          rw [← hL, List.drop_left, List.take_of_length_le (by rw [(hf i (by omega)).1]; exact Nat.le_refl _)]
    refine ⟨_, len, ((List.range len).map f).flatten, rfl, ⟨hlenf len (Nat.le_refl _), some a, m, rfl, hl, hm, (fun h => by cases h), fun b hb j u hu => ?_⟩, ?_, fun i hi' => ?_⟩
    · obtain rfl := Option.some.inj hb
      have hj : j < len * C := by
        have := (List.getElem?_eq_some_iff.1 hu).1
        rw [hlenf len (Nat.le_refl _)] at this
        exact this
      have hjc : j / C < len := Nat.div_lt_of_lt_mul (by rw [Nat.mul_comm]; exact hj)
      have hjm : j % C < C := Nat.mod_lt _ hC0
      have e : j / C * C + j % C = j := by rw [Nat.mul_comm]; exact Nat.div_add_mod j C
      have hc := (hf (j / C) hjc).2.1 (j % C) hjm
      rw [e] at hc
      rw [hc, ← hcut len (Nat.le_refl _) (j / C) hjc, List.getElem?_take, if_pos hjm, List.getElem?_drop, e]
      exact hu
    · have := hs ((((List.range len).map D).length + ((List.range (m - len)).map fun j => D (len + j)).length) * P.bytesOf e) (by
        rw [hx]
        simp [DataW.weights, ht])
      simp only [List.length_map, List.length_range] at this
      exact Nat.le_trans (Nat.mul_le_mul_right _ (by omega)) this
    · rw [hcut len (Nat.le_refl _) i hi']
      exact (hf i hi').2.2
/-- Cells of one kind, one an element: a list. -/
theorem cells_map {α : Type} (g : α → Value) (q : α → Prop) : ∀ (n : Nat) (vs : List Value), vs.length = n * 1 → (∀ i, i < n → ∃ y, (vs.drop (i * 1)).take 1 = [g y] ∧ q y) → ∃ l : List α, l.length = n ∧ vs = l.map g ∧ ∀ y ∈ l, q y
  | 0, vs, hl, _ => ⟨[], rfl, List.eq_nil_of_length_eq_zero (by simpa using hl), by simp⟩
  | n + 1, vs, hl, h => by
    match vs, hl with
    | v :: vs, hl =>
      obtain ⟨y, hy, hq⟩ := h 0 (by omega)
      obtain ⟨l, h1, h2, h3⟩ := cells_map g q n vs (by simp at hl; omega) (fun i hi => by
        obtain ⟨z, hz, hqz⟩ := h (i + 1) (by omega)
        refine ⟨z, ?_, hqz⟩
        rw [← hz]
        simp)
      refine ⟨y :: l, by simp [h1], ?_, ?_⟩
      · have : v = g y := by simpa using hy
        rw [this, h2]
        rfl
      · intro z hz
        simp only [List.mem_cons] at hz
        rcases hz with rfl | hz
        · exact hq
        · exact h3 z hz
theorem byte_cell {t : TypeId} {fuel : Nat} {cs : List Value} {x : DataW H × List MemPlace} {spare : Nat → Bool} (ht : P.underlying t = some (.int .u8)) (h : DataW.trod enc P w base spare held fuel t cs = some x) : ∃ b : UInt8, cs = [.int .u8 (b.toNat : Int)] := by
  obtain ⟨n, rfl, _, hw⟩ := DataW.trod_int ht h
  simp only [Lit.wf, Bool.and_eq_true, decide_eq_true_eq] at hw
  have h1 : 0 ≤ n := by have := hw.1; simp [IntKind.min, IntKind.signed, IntKind.bits] at this; omega
  have h2 : n < 256 := by have := hw.2; simp [IntKind.max, IntKind.signed, IntKind.bits] at this; omega
  refine ⟨UInt8.ofNat n.toNat, ?_⟩
  simp
  omega
theorem read_bytes {t e : TypeId} {fuel : Nat} {cs : List Value} {x : DataW H × List MemPlace} (ht : P.underlying t = some (.slice e)) (he : P.underlying e = some (.int .u8)) (hC : P.cellsOf e = 1) (hB : P.bytesOf e = 1)
    (h : DataW.trod enc P w base (fun _ => true) held fuel t cs = some x) (hs : small P t x.1) : ∃ v l, cs = [v] ∧ RB w (old w) v l ∧ l.length ≤ reachBytes := by
  obtain ⟨v, n, vs, rfl, h1, h2, h3⟩ := open_rows ht hC (by omega) h hs (R := fun cs' => ∃ b : UInt8, cs' = [.int .u8 (b.toNat : Int)]) (fun _ _ _ hy _ => byte_cell he hy)
  obtain ⟨l, g1, g2, _⟩ := cells_map (fun b : UInt8 => Value.int .u8 (b.toNat : Int)) (fun _ => True) n vs h1.1 (fun i hi => by obtain ⟨b, hb⟩ := h3 i hi; exact ⟨b, hb, trivial⟩)
  subst g1
  refine ⟨v, l, rfl, ⟨?_, h1.at_lt (by omega)⟩, by rw [hB] at h2; omega⟩
  rw [g2] at h1
  exact h1
theorem read_ints {t e : TypeId} {fuel : Nat} {cs : List Value} {x : DataW H × List MemPlace} (ht : P.underlying t = some (.slice e)) (he : P.underlying e = some (.int .i64)) (hC : P.cellsOf e = 1) (hB : P.bytesOf e = 8)
    (h : DataW.trod enc P w base (fun _ => true) held fuel t cs = some x) (hs : small P t x.1) : ∃ v l, cs = [v] ∧ RI w (old w) v l ∧ l.length * 8 ≤ reachBytes ∧ ∀ n ∈ l, (Lit.int .i64 n).wf = true := by
  obtain ⟨v, n, vs, rfl, h1, h2, h3⟩ := open_rows ht hC (by omega) h hs (R := fun cs' => ∃ n : Int, cs' = [.int .i64 n] ∧ (Lit.int .i64 n).wf = true) (fun _ _ _ hy _ => by
    obtain ⟨n, hn, _, hw⟩ := DataW.trod_int he hy
    exact ⟨n, hn, hw⟩)
  obtain ⟨l, g1, g2, g3⟩ := cells_map (fun n : Int => Value.int .i64 n) (fun n => (Lit.int .i64 n).wf = true) n vs h1.1 h3
  subst g1
  refine ⟨v, l, rfl, ⟨?_, h1.at_lt (by omega)⟩, by rw [hB] at h2; exact h2, g3⟩
  rw [g2] at h1
  exact h1
theorem read_keys {t b e : TypeId} {fuel : Nat} {cs : List Value} {x : DataW H × List MemPlace} (ht : P.underlying t = some (.slice b)) (hb : P.underlying b = some (.slice e)) (he : P.underlying e = some (.int .u8)) (hCb : P.cellsOf b = 1) (hBb : P.bytesOf b = 24) (hC : P.cellsOf e = 1) (hB : P.bytesOf e = 1)
    (h : DataW.trod enc P w base (fun _ => true) held fuel t cs = some x) (hs : small P t x.1) : ∃ v ks, cs = [v] ∧ RK w (old w) v ks ∧ ks.length * 24 ≤ reachBytes ∧ ∀ k ∈ ks, k.length ≤ reachBytes := by
  obtain ⟨v, n, vs, rfl, h1, h2, h3⟩ := open_rows ht hCb (by omega) h hs (R := fun cs' => ∃ v l, cs' = [v] ∧ RB w (old w) v l ∧ l.length ≤ reachBytes) (fun _ _ _ hy hsy => read_bytes hb he hC hB hy hsy)
  obtain ⟨l, g1, g2, g3⟩ := cells_map (fun y : Value × List UInt8 => y.1) (fun y => RB w (old w) y.1 y.2 ∧ y.2.length ≤ reachBytes) n vs h1.1 (fun i hi => by
    obtain ⟨u, k, hk, hr, hl⟩ := h3 i hi
    exact ⟨(u, k), hk, hr, hl⟩)
  refine ⟨v, l.map (·.2), rfl, ⟨vs, by rw [List.length_map, g1]; exact h1, h1.at_lt (by omega), fun i k hk => ?_⟩, by rw [List.length_map, g1, ← hBb]; exact h2, fun k hk => ?_⟩
  · rw [List.getElem?_map] at hk
    obtain ⟨y, hy, rfl⟩ := Option.map_eq_some_iff.1 hk
    refine ⟨y.1, by rw [g2, List.getElem?_map, hy]; rfl, (g3 y ?_).1⟩
    exact List.mem_of_getElem? hy
  · obtain ⟨y, hy, rfl⟩ := List.mem_map.1 hk
    exact (g3 y hy).2
/-- What keeps a page, and a tree, small enough to be copied. -/
def Sized (p : Pg) : Prop := p.keys.length * 24 ≤ reachBytes ∧ (∀ k ∈ p.keys, k.length ≤ reachBytes) ∧ p.kids.length * 8 ≤ reachBytes ∧ p.high.length ≤ reachBytes ∧ (∀ n ∈ p.kids, (Lit.int .i64 n).wf = true) ∧ (Lit.int .i64 p.next).wf = true
theorem weights_each : ∀ {ts : List TypeId} {ds : List (DataW H)} {j : Nat} {t : TypeId} {d : DataW H}, ts[j]? = some t → ds[j]? = some d → ∀ n ∈ d.weights P t, n ∈ DataW.weightsEach P ts ds :=
  fun ht hd => DataW.weights_mem_each ht hd
theorem read_page {t tk tb te tc : TypeId} {f0 f1 f2 f3 f4 : Field} {fuel : Nat} {cs : List Value} {x : DataW H × List MemPlace} (ht : P.underlying t = some (.struct #[f0, f1, f2, f3, f4])) (hone : oneCellFields P #[f0, f1, f2, f3, f4] = true) (hC5 : P.cellsOf t = 5)
    (u0 : P.underlying f0.type = some .bool) (u1 : P.underlying f1.type = some (.slice tb)) (u2 : P.underlying f2.type = some (.slice tc)) (u3 : P.underlying f3.type = some (.slice te)) (u4 : P.underlying f4.type = some (.int .i64))
    (hb : P.underlying tb = some (.slice te)) (he : P.underlying te = some (.int .u8)) (hc : P.underlying tc = some (.int .i64)) (hCb : P.cellsOf tb = 1) (hBb : P.bytesOf tb = 24) (hC : P.cellsOf te = 1) (hB : P.bytesOf te = 1) (hCc : P.cellsOf tc = 1) (hBc : P.bytesOf tc = 8)
    (h : DataW.trod enc P w base (fun _ => true) held fuel t cs = some x) (hs : small P t x.1) : ∃ p, RP w (old w) cs p ∧ Sized p := by
  obtain ⟨xs, n, _, hx, hl, hxl, hf⟩ := DataW.trod_struct ht h
  rw [hC5] at hl
  obtain ⟨o0, k0⟩ := hone_of hone 0 f0 rfl
  obtain ⟨o1, k1⟩ := hone_of hone 1 f1 rfl
  obtain ⟨o2, k2⟩ := hone_of hone 2 f2 rfl
  obtain ⟨o3, k3⟩ := hone_of hone 3 f3 rfl
  obtain ⟨o4, k4⟩ := hone_of hone 4 f4 rfl
  match cs, hl with
  | [c0, c1, c2, c3, c4], _ =>
    match xs, hxl with
    | [y0, y1, y2, y3, y4], _ =>
      have g0 := hf 0 f0 rfl
      have g1 := hf 1 f1 rfl
      have g2 := hf 2 f2 rfl
      have g3 := hf 3 f3 rfl
      have g4 := hf 4 f4 rfl
      simp [o0, k0] at g0
      simp [o1, k1] at g1
      simp [o2, k2] at g2
      simp [o3, k3] at g3
      simp [o4, k4] at g4
      have sm : ∀ (j : Nat) (f : Field) (y : DataW H × List MemPlace), [f0.type, f1.type, f2.type, f3.type, f4.type][j]? = some f.type → [y0.1, y1.1, y2.1, y3.1, y4.1][j]? = some y.1 → small P f.type y.1 := by
        intro j f y hf' hy' q hq
        refine hs q ?_
        rw [hx]
        simp only [DataW.weights, ht]
        exact weights_each hf' hy' q hq
      obtain ⟨b, e0, _⟩ := DataW.trod_bool u0 g0
      obtain ⟨vk, ks, e1, r1, s1, s1'⟩ := read_keys u1 hb he hCb hBb hC hB g1 (sm 1 f1 y1 rfl rfl)
      obtain ⟨vd, ds, e2, r2, s2, s2'⟩ := read_ints u2 hc hCc hBc g2 (sm 2 f2 y2 rfl rfl)
      obtain ⟨vh, hh, e3, r3, s3⟩ := read_bytes u3 he hC hB g3 (sm 3 f3 y3 rfl rfl)
      obtain ⟨m, e4, _, w4⟩ := DataW.trod_int u4 g4
      simp at e0 e1 e2 e3 e4
      subst e0 e1 e2 e3 e4
      exact ⟨⟨b, ks, ds, hh, m⟩, ⟨_, _, _, rfl, r1, r2, r3⟩, s1, s1', s2, s3, s2', w4⟩
theorem read_pages {t e : TypeId} {fuel : Nat} {cs : List Value} {x : DataW H × List MemPlace} (ht : P.underlying t = some (.slice e)) (hC : P.cellsOf e = 5) (hB : P.bytesOf e = 88)
    (hR : ∀ (n : Nat) (cs' : List Value) (y : DataW H × List MemPlace), DataW.trod enc P w base (fun _ => true) held n e cs' = some y → small P e y.1 → ∃ p, RP w (old w) cs' p ∧ Sized p)
    (h : DataW.trod enc P w base (fun _ => true) held fuel t cs = some x) (hs : small P t x.1) : ∃ v vs ps, cs = [v] ∧ Rd w 5 ps.length v vs ∧ At (old w) v ∧ RPs w (old w) vs ps ∧ ps.length * 88 ≤ reachBytes ∧ ∀ p ∈ ps, Sized p := by
  obtain ⟨v, n, vs, rfl, h1, h2, h3⟩ := open_rows ht hC (by omega) h hs hR
  have each : ∀ i, ∃ p : Pg, i < n → RP w (old w) ((vs.drop (i * 5)).take 5) p ∧ Sized p := fun i => by
    by_cases hi : i < n
    · obtain ⟨p, hp⟩ := h3 i hi
      exact ⟨p, fun _ => hp⟩
    · exact ⟨⟨false, [], [], [], 0⟩, fun h => absurd h hi⟩
  obtain ⟨f, hf⟩ := Classical.axiomOfChoice each
  refine ⟨v, vs, (List.range n).map f, rfl, by simpa using h1, h1.at_lt (by omega), ⟨by simp [h1.1], fun i p hp => ?_⟩, by simpa [hB] using h2, fun p hp => ?_⟩
  · rw [List.getElem?_map] at hp
    obtain ⟨j, hj, rfl⟩ := Option.map_eq_some_iff.1 hp
    have hin : i < n := by
      have := (List.getElem?_eq_some_iff.1 hj).1
      simpa using this
    have : j = i := by simpa [hin] using hj.symm
    subst this
    exact (hf j hin).1
  · obtain ⟨i, hi, rfl⟩ := List.mem_map.1 hp
    exact (hf i (List.mem_range.1 hi)).2
end
end Go.Proofs.YtmfkdpfcpdmkdaaGreatDoor
/- Ops of an expression, plainly: what an op lacks, what ops lack. -/
namespace Go.Proofs.YtmfkdpfcpdmkdaaGreatDoor
set_option linter.unusedVariables false
set_option linter.unusedSimpArgs false
/-- An op: its kind, its value, its name. -/
structure Oq where
  k : Int
  v : V
  t : ByteArray
/-- An empty op. -/
def noq : Oq := ⟨0, ⟨0, 0, ⟨#[]⟩⟩, ⟨#[]⟩⟩
/-- What a literal's value lacks. -/
def litF (k n : Int) (t : ByteArray) : Int := if k = 2 ∧ n = -9223372036854775808 then 3 else chk k n t
/-- Is a value the empty one? -/
def vnul (k n : Int) (t : ByteArray) : Bool := k == 0 && (n == 0 && t.toList.isEmpty)
/-- What an op lacks, whatever stands ahead of it. -/
def opF (k vk vn : Int) (vt t : ByteArray) : Int :=
  if k < 1 ∨ 11 < k then 2 else if litF vk vn vt ≠ 0 then litF vk vn vt
  else if (k ≠ 1 ∧ vnul vk vn vt = false) ∨ (k ≠ 2 ∧ t.toList.isEmpty = false) then 6 else if k = 2 then nmF t.data.toList else 0
/-- On how many an op of a kind works. -/
def wks (k : Int) : Int := if k = 1 ∨ k = 2 then 0 else if k = 5 ∨ k = 11 then 1 else 2
/-- What ops lack, when so many things are left of those ahead. -/
def exF : Int → List Oq → Int
  | n, [] => if n = 1 then 0 else 7
  | n, o :: l => if opF o.k o.v.k o.v.n o.v.t o.t ≠ 0 then opF o.k o.v.k o.v.n o.v.t o.t else if n < wks o.k then 7 else exF (n + 1 - wks o.k) l
def exprF (l : List Oq) : Int := if 40 < l.length then 10 else exF 0 l
/-- The cells of ops. -/
def ocs : List Oq → List Value
  | [] => []
  | o :: l => .int .i64 o.k :: .int .i64 o.v.k :: .int .i64 o.v.n :: .string o.v.t :: .string o.t :: ocs l
theorem ocs_app : ∀ l m : List Oq, ocs (l ++ m) = ocs l ++ ocs m
  | [], _ => rfl
  | v :: l, m => by simp [ocs, ocs_app l m]
theorem ocs_length : ∀ l : List Oq, (ocs l).length = l.length * 5
  | [] => rfl
  | v :: l => by simp [ocs, ocs_length l]; omega
theorem ocs_at : ∀ {l : List Oq} {k : Nat}, k < l.length → (ocs l)[k * 5]? = some (.int .i64 (l.getD k noq).k) ∧ (ocs l)[k * 5 + 1]? = some (.int .i64 (l.getD k noq).v.k) ∧ (ocs l)[k * 5 + 2]? = some (.int .i64 (l.getD k noq).v.n) ∧ (ocs l)[k * 5 + 3]? = some (.string (l.getD k noq).v.t) ∧ (ocs l)[k * 5 + 4]? = some (.string (l.getD k noq).t)
  | [], k, h => by simp at h
  | v :: l, 0, _ => by simp [ocs]
  | v :: l, k + 1, h => by
    have ih := ocs_at (l := l) (k := k) (by simpa using h)
    have e : (k + 1) * 5 = k * 5 + 1 + 1 + 1 + 1 + 1 := by omega
    rw [e]
    simpa [ocs] using ih
theorem ocs_one : ∀ (l : List Oq), ∀ u ∈ ocs l, u.oneCell' = true
  | [], u, hu => by simp [ocs] at hu
  | v :: l, u, hu => by
    simp only [ocs, List.mem_cons] at hu
    rcases hu with rfl | rfl | rfl | rfl | rfl | hu
    · rfl
    · rfl
    · rfl
    · rfl
    · rfl
    · exact ocs_one l u hu
theorem wks_in (k : Int) : 0 ≤ wks k ∧ wks k ≤ 2 := by
  unfold wks
  split
  · omega
  · split <;> omega
theorem opF_kind {k vk vn : Int} {vt t : ByteArray} (h : opF k vk vn vt t = 0) : 1 ≤ k ∧ k ≤ 11 := by
  unfold opF at h
  split at h
  · omega
  · omega
end Go.Proofs.YtmfkdpfcpdmkdaaGreatDoor
