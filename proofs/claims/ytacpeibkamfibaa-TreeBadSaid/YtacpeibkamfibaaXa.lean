/- Trees that were made by a few steps: what is found in them, put in, taken out. -/
import Derived.Test.YtacpeibkamfibaaTq
import Derived.Test.YtacpeibkamfibaaGm
import Derived.Test.YtacpeibkamfibaaXr
import Derived.Test.YtacpeibkamfibaaHn
import Derived.Test.YtacpeibkamfibaaKp
namespace Go.Proofs.Ytacpeibkamfibaa
open Go.ChangeShapes Go.WideShapes Go.ChangeAt Go.RowKit Go.Shelf
set_option linter.unusedVariables false
set_option linter.unusedSimpArgs false
set_option maxHeartbeats 1000000
/-- The key of a raw number. -/
def keyK (n : Int) : Key := [UInt8.ofNat (97 + pck n 90 % 9).toNat, UInt8.ofNat (97 + pck n 90 / 9).toNat]
theorem keyK_ok (n : Int) : okK (keyK n) := by unfold okK keyK; simp
theorem keyK_bc (n : Int) : bc (keyK n) = [.int .u8 (97 + pck n 90 % 9), .int .u8 (97 + pck n 90 / 9)] := by
  obtain ⟨h1, h2⟩ := pck_in n 90 (by omega)
  unfold keyK bc
  simp only [List.map_cons, List.map_nil, UInt8.toNat_ofNat', Nat.reducePow]
  congr 2
  · congr 1; omega
  · congr 2; omega
theorem keyK_eq {a b : Int} : keyK a = keyK b ↔ pck a 90 = pck b 90 := by
  constructor
  · intro h
    have h3 := keyK_bc a
    rw [h, keyK_bc b] at h3
    simp only [List.cons.injEq, Value.int.injEq, true_and, and_true] at h3
    omega
  · intro h
    unfold keyK
    rw [h]
/-- What a step makes of the entries. -/
def stepE (i a : Int) (l : List (Key × Int)) : List (Key × Int) := if a < 0 then offE (keyK a) l else if (lookE (keyK a) l).isSome then l else insE (keyK a) i l
def runE (L : List Int) : Nat → List (Key × Int)
  | 0 => []
  | n + 1 => stepE n (L.getD n 0) (runE L n)
theorem look_none {k : Key} {l : List (Key × Int)} (h : lookE k l = none) : ∀ e ∈ l, e.1 ≠ k := by
  unfold lookE at h
  rw [Option.map_eq_none_iff, List.find?_eq_none] at h
  intro e he
  have := h e he
  simpa using this
theorem rt_lt {w : World} {ok : Nat → Prop} {v : Value} {T : Tr} (h : RT w ok v T) : RT w (fun b => ok b ∧ b < w.heap.size) v T := by
  obtain ⟨s, vs, e1, r1, r2, r3⟩ := h
  refine ⟨s, vs, e1, r1, fun a n c e hn => ⟨r2 a n c e hn, r1.at_lt (by omega) a n c e hn⟩, r3.1, fun i p hp => ?_⟩
  obtain ⟨k', d', h', c0, ⟨vk, k1, k2, k3⟩, ⟨d1, d2⟩, h1⟩ := r3.2 i p hp
  exact ⟨k', d', h', c0, ⟨vk, k1, fun a n c e hn => ⟨k2 a n c e hn, k1.at_lt (by omega) a n c e hn⟩, fun j q hq => by obtain ⟨x, x1, x2⟩ := k3 j q hq; exact ⟨x, x1, x2.lt⟩⟩, ⟨d1, fun a n c e hn => ⟨d2 a n c e hn, d1.at_lt (by omega) a n c e hn⟩⟩, h1.lt⟩
/-- A tree of a few steps, in blocks from B on. -/
structure GT (B n : Nat) (w : World) (tv : Value) (T : Tr) (l : List (Key × Int)) : Prop where
  own : OTr w B tv T
  grown : Grown n T l
  few : n ≤ 80
theorem small_of {T : Tr} {h : Nat} {t : Tb h} (hr : Reps T h t) (hN : T.pages.length ≤ 4000) : Small T := by
  have hp := reps_pass hr
  refine ⟨fun p hp' => ?_, ?_⟩
  · have h1 := hp.page p hp'
    have h2 := h1.keys
    have h3 := h1.kids
    refine ⟨by unfold maxLen; omega, ?_⟩
    split at h3 <;> omega
  · have := hp.root
    unfold Rng
    omega
section
variable {B n : Nat} {w : World} {tv : Value} {T : Tr} {l : List (Key × Int)}
theorem GT.rt (h : GT B n w tv T l) : RT w (fun b => B ≤ b ∧ b < w.heap.size) tv T := rt_lt h.own.rt
theorem GT.below {w' : World} (h : GT B n w tv T l) (hb : Below w.heap.size w w') : GT B n w' tv T l :=
  ⟨h.own.below hb, h.grown, h.few⟩
theorem GT.base {B' : Nat} (h : GT B n w tv T l) (hB : B' ≤ B) : GT B' n w tv T l := ⟨h.own.base hB, h.grown, h.few⟩
/-- A store into a block that the tree does not lie in. -/
theorem GT.far {w' : World} (h : GT B n w tv T l) (hf : ∀ b, B ≤ b → b < w.heap.size → w'.heap[b]? = w.heap[b]?) (hz : w.heap.size ≤ w'.heap.size) : GT B n w' tv T l :=
  ⟨h.own.far hf, h.grown, h.few⟩
theorem GT.pages (h : GT B n w tv T l) : T.pages.length ≤ 3321 := h.grown.few h.few
theorem GT.small (h : GT B n w tv T l) : Small T := by
  obtain ⟨⟨h', t, h1, h2, h3⟩, h4⟩ := h.grown
  exact small_of h1 (by have := h.pages; omega)
theorem GT.shape (h : GT B n w tv T l) : ∃ ao cap, tv = .agg #[.slice ao T.pages.length cap, .int .i64 T.root] := by
  obtain ⟨ao, cap, _, _, _, e, -⟩ := pagesF h.rt
  exact ⟨ao, cap, e⟩
theorem GT.pos (h : GT B n w tv T l) : 0 < T.pages.length := by
  obtain ⟨⟨h', t, h1, h2, h3⟩, h4⟩ := h.grown
  have := (reps_pass h1).root
  omega
theorem GT.up {n' : Nat} (h : GT B n w tv T l) (hn : n ≤ n') (h8 : n' ≤ 80) : GT B n' w tv T l := ⟨h.own, h.grown.mono hn, h8⟩
theorem find_g (h : GT B n w tv T l) {ok' : Nat → Prop} {kv : Value} {k : Key} (hk : RB w ok' kv k) (hy : okK k) :
    Calls Try.prog 31 #[tv, kv] w (Two ((lookE k l).getD 0) (if (lookE k l).isSome then 0 else 8) w) := by
  obtain ⟨⟨h', t, h1, h2, h3⟩, h4⟩ := h.grown
  have q := find_ok w _ ok' (fun b hb => hb.2) tv kv T h' t k h.rt hk h.small (by have := h.pages; omega) h1 hy
  rwa [h2] at q
/-- A tree and no error. -/
def TreeOut (n : Nat) (l : List (Key × Int)) (w : World) (e : Ending) (w' : World) : Prop :=
  ∃ ao cap T, e = .returned (.tuple #[.agg #[.slice ao T.pages.length cap, .int .i64 T.root], .int .i64 0]) ∧ GT w.heap.size n w' (.agg #[.slice ao T.pages.length cap, .int .i64 T.root]) T l ∧ Below w.heap.size w w'
theorem insert_g (h : GT B n w tv T l) (hn : n < 80) {ok' : Nat → Prop} {kv : Value} {k : Key} (hk : RB w ok' kv k) (hy : okK k) {row : Int} (hv : 0 ≤ row) (hl : lookE k l = none) :
    Calls Try.prog 25 #[tv, kv, .int .i64 row] w (TreeOut (n + 1) (insE k row l) w) := by
  obtain ⟨h', g, t, h1, h2⟩ := h.grown.ins hy hv (look_none hl)
  refine (insert_ok w _ ok' (fun b hb => hb.2) tv kv T h' t k row h.rt hk h.small (by have := h.pages; omega) h1 hy hv (by rw [h2]; exact look_none hl)).mono ?_
  rintro e w' (⟨q1, P, cap, rfl, q2, q3⟩ | ⟨q1, -⟩)
  · exact ⟨_, _, _, rfl, ⟨q2, g, by omega⟩, q3⟩
  · have := g.few (by omega)
    omega
theorem insert_twice (h : GT B n w tv T l) {ok' : Nat → Prop} {kv : Value} {k : Key} (hk : RB w ok' kv k) (hy : okK k) {row : Int} (hv : 0 ≤ row) (hl : (lookE k l).isSome = true) :
    Calls Try.prog 25 #[tv, kv, .int .i64 row] w (NoIs 9 w) := by
  obtain ⟨ao, cap, rfl⟩ := h.shape
  refine insert_no w _ _ _ _ kv ((lookE k l).getD 0) 0 9 row (fun W hW => ?_) (.inr (.inr ⟨rfl, hv, rfl⟩))
  have := find_g (h.below hW) (hk.below hW) hy
  rwa [hl, if_pos rfl] at this
theorem insert_range (h : GT B n w tv T l) {ok' : Nat → Prop} {kv : Value} {k : Key} (hk : RB w ok' kv k) (hy : okK k) {row : Int} (hv : row < 0) :
    Calls Try.prog 25 #[tv, kv, .int .i64 row] w (NoIs 3 w) := by
  obtain ⟨ao, cap, rfl⟩ := h.shape
  refine insert_no w _ _ _ _ kv ((lookE k l).getD 0) (if (lookE k l).isSome then 0 else 8) 3 row (fun W hW => find_g (h.below hW) (hk.below hW) hy) (.inr (.inl ⟨?_, hv, rfl⟩))
  split
  · exact .inl rfl
  · exact .inr rfl
theorem insert_size (h : GT B n w tv T l) {ok' : Nat → Prop} {kv : Value} {k : Key} (hk : RB w ok' kv k) (hy : ¬ okK k) {row : Int} :
    Calls Try.prog 25 #[tv, kv, .int .i64 row] w (NoIs 1 w) := by
  obtain ⟨⟨h', t, h1, h2, h3⟩, h4⟩ := h.grown
  have hN := h.pages
  have hs := h.small
  obtain ⟨ao, cap, rfl⟩ := h.shape
  refine insert_no w _ _ _ _ kv 0 1 1 row (fun W hW => find_size W _ ok' (fun b hb => ?_) _ kv T k (h.rt.below hW) (hk.below hW) hs ⟨by omega, reps_pass h1⟩ hy) (.inl ⟨by omega, by omega, rfl⟩)
  have := hW.size
  have := hb.2
  omega
theorem find_size_g (h : GT B n w tv T l) {ok' : Nat → Prop} {kv : Value} {k : Key} (hk : RB w ok' kv k) (hy : ¬ okK k) : Calls Try.prog 31 #[tv, kv] w (Two 0 1 w) := by
  obtain ⟨⟨h', t, h1, h2, h3⟩, h4⟩ := h.grown
  exact find_size w _ ok' (fun b hb => hb.2) _ kv T k h.rt hk h.small ⟨by have := h.pages; omega, reps_pass h1⟩ hy
theorem delete_g (h : GT B n w tv T l) {ok' : Nat → Prop} {kv : Value} {k : Key} (hk : RB w ok' kv k) (hy : okK k) (hl : (lookE k l).isSome = true) :
    Calls Try.prog 27 #[tv, kv] w (TreeOut n (offE k l) w) := by
  obtain ⟨v, hv⟩ := Option.isSome_iff_exists.1 hl
  obtain ⟨h', t, h1, h2, g⟩ := h.grown.del (k := k)
  refine (delete_ok w _ ok' (fun b hb => hb.2) tv kv T h' t k v h.rt hk h.small (by have := h.pages; omega) h1 hy (by rw [h2]; exact hv)).mono ?_
  rintro e w' ⟨P, cap, rfl, q2, q3⟩
  exact ⟨_, _, _, rfl, ⟨q2, g, h.few⟩, q3⟩
theorem delete_none (h : GT B n w tv T l) {ok' : Nat → Prop} {kv : Value} {k : Key} (hk : RB w ok' kv k) (hy : okK k) (hl : lookE k l = none) :
    Calls Try.prog 27 #[tv, kv] w (NoIs 8 w) := by
  obtain ⟨ao, cap, rfl⟩ := h.shape
  refine delete_no w _ _ _ _ kv 0 8 (fun W hW => ?_) (by omega)
  have := find_g (h.below hW) (hk.below hW) hy
  rw [hl] at this
  exact this
theorem check_g (h : GT B n w tv T l) : Calls Try.prog 33 #[tv] w fun e w' => e = .returned (.int .i64 0) ∧ Below w.heap.size w w' := by
  obtain ⟨⟨h', t, h1, h2, h3⟩, h4⟩ := h.grown
  have hc := check_any w _ (fun b hb => hb.2) _ T h.rt h.small.1 h.small.2
  unfold ChkIs at hc
  rwa [chkT_yes (by have := h.pages; omega) (reps_pass h1)] at hc
theorem new_g (w : World) : Calls Try.prog 34 #[] w fun e w' => ∃ ao cap, e = .returned (.agg #[.slice ao 1 cap, .int .i64 0]) ∧ GT w.heap.size 0 w' (.agg #[.slice ao 1 cap, .int .i64 0]) newTr [] ∧ Below w.heap.size w w' := by
  refine (new_own w).mono ?_
  rintro e w' ⟨v, rfl, h1, h2⟩
  have g : GT w.heap.size 0 w' v newTr [] := ⟨h1, grown_new, by omega⟩
  obtain ⟨ao, cap, rfl⟩ := g.shape
  exact ⟨ao, cap, rfl, g, h2⟩
end
theorem offE_none {k : Key} {l : List (Key × Int)} (h : lookE k l = none) : offE k l = l := offE_same (look_none h)
end Go.Proofs.Ytacpeibkamfibaa
