import Derived.Test.YtdeollmeljaaoaaDoorOck
set_option linter.unusedVariables false
set_option linter.unusedSimpArgs false
set_option maxHeartbeats 4000000
set_option maxRecDepth 1000000
open Go.ChangeAt Go.ChangeShapes Go.RowKit Go.WideShapes
open Go.Lib (hid)
namespace Go.Proofs.YtdeollmeljaaoaaDoor.tw
def OpsIs (N : Nat) (w : World) (e : Ending) (w' : World) : Prop := ∃ v l, e = .returned v ∧ Whl l ∧ l.length ≤ N ∧ w'.ownsRow w.heap.size 54 5 v l.length (ocs l) ∧ Below w.heap.size w w'
theorem cut_size (s : ByteArray) (m : Nat) : (cutS s m).size ≤ m ∧ (cutS s m).size ≤ s.size := by
 unfold cutS
 rw [ByteArray.size_extract]
 omega
theorem cut_nil (m : Nat) : cutS ⟨#[]⟩ m = ⟨#[]⟩ := by
 have h := (cut_size ⟨#[]⟩ m).2
 have h2 : (cutS ⟨#[]⟩ m).size = 0 := by
  have : (⟨#[]⟩ : ByteArray).size = 0 := rfl
  omega
 exact ByteArray.ext (Array.eq_empty_of_size_eq_zero h2)
theorem chk_ok {k n : Int} {t : ByteArray} (h0 : 0 ≤ k) (h3 : k ≤ 3) (ht : k = 3 ∨ t = ⟨#[]⟩) (hn : nmb k n = true) (hs : t.size ≤ 20) : chk k n t = 0 := by
 unfold chk
 rw [if_neg (by omega), if_neg (by omega), if_neg, if_neg (by omega)]
 rintro (⟨h, h'⟩ | h)
 ·rcases ht with ht | ht
  ·exact h ht
  ·rw [ht] at h'
   exact h' (by rw [Lib.toList_data])
 ·rw [hn] at h; cases h
theorem raw_lit (n p : Int) (s : ByteArray) (h0 : 0 ≤ p) (h1 : p < 40) : litF (rawV n (p - 20) s).k (rawV n (p - 20) s).n (cutS (rawV n (p - 20) s).t 4) = 0 := by
 have hq := pck_in n 4 (by omega)
 have h2 := pck_in (p - 20) 2 (by omega)
 unfold rawV
 split
 ·show litF 1 (pck (p - 20) 2) (cutS ⟨#[]⟩ 4) = 0
  rw [cut_nil]
  unfold litF
  rw [if_neg (by omega)]
  refine chk_ok (by omega) (by omega) (.inr rfl) ?_ (by decide)
  have : pck (p - 20) 2 = 0 ∨ pck (p - 20) 2 = 1 := by omega
  rcases this with h | h <;> rw [h] <;> rfl
 ·split
  ·show litF 2 (p - 20) (cutS ⟨#[]⟩ 4) = 0
   rw [cut_nil]
   unfold litF
   rw [if_neg (by omega)]
   exact chk_ok (by omega) (by omega) (.inr rfl) rfl (by decide)
  ·split
   ·show litF 3 0 (cutS (cutS s 10) 4) = 0
    unfold litF
    rw [if_neg (by omega)]
    exact chk_ok (by omega) (by omega) (.inl rfl) rfl (by have := (cut_size (cutS s 10) 4).1; omega)
   ·show litF 0 0 (cutS ⟨#[]⟩ 4) = 0
    rw [cut_nil]
    decide +kernel
theorem raw_size (n p : Int) (s : ByteArray) (hs : s.size ≤ maxLen) : (rawV n p s).t.size ≤ maxLen := by
 have e : (⟨#[]⟩ : ByteArray).size ≤ maxLen := by decide
 unfold rawV
 split
 ·exact e
 ·split
  ·exact e
  ·split
   ·have := (cut_size s 10).2
    show (cutS s 10).size ≤ _
    omega
   ·exact e
theorem col_ok : ∀ j, j < 4 → nmF (colL.getD j ⟨#[]⟩).data.toList = 0 ∧ (colL.getD j ⟨#[]⟩).size ≤ 2 := by decide +kernel
theorem col_sml {j : Nat} (h : j < 4) {v : V} (hv : Fi v.n) : Sml ⟨2, v, colL.getD j ⟨#[]⟩⟩ := ⟨(col_ok j h).2, fun _ => by
 have h' : j < colL.length := h
 show colL.getD j ⟨#[]⟩ ∈ colL
 rw [List.getD, List.getElem?_eq_getElem h']
 exact List.getElem_mem h', hv⟩
theorem raw_fi (n p : Int) (s : ByteArray) (h0 : 0 ≤ p) (h1 : p < 40) : Fi (rawV n (p - 20) s).n := by
 have h2 := pck_in (p - 20) 2 (by omega)
 unfold rawV Fi
 split
 ·show _ ≤ pck (p - 20) 2 ∧ pck (p - 20) 2 ≤ _
  omega
 ·split
  ·show _ ≤ p - 20 ∧ p - 20 ≤ _
   omega
  ·split
   ·show _ ≤ (0 : Int) ∧ (0 : Int) ≤ _
    omega
   ·show _ ≤ (0 : Int) ∧ (0 : Int) ≤ _
    omega
theorem op_col {t : ByteArray} (h : nmF t.data.toList = 0) : opF 2 0 0 ⟨#[]⟩ t = 0 := by
 have e : litF 0 0 ⟨#[]⟩ = 0 := by decide +kernel
 unfold opF
 rw [if_neg (by omega), if_neg (by rw [e]; simp), if_neg (by simp [vnul, emp_data]), if_pos rfl, h]
theorem leaf_out {w w1 : World} {o : Oq} {B : Nat} (hB : w1.heap.size = B) (hb : Below w.heap.size w w1) (h : opF o.k o.v.k o.v.n o.v.t o.t = 0) (hw : wks o.k = 0) (hs : Sml o) (N : Nat) (hN : 1 ≤ N) :
  OpsIs N w (.returned (.slice (some ⟨B, 0, none⟩) 1 1)) (w1.alloc (.cells #[.int .i64 o.k, .int .i64 o.v.k, .int .i64 o.v.n, .string o.v.t, .string o.t] 54)) := by
 subst hB
 exact ⟨_, [o], rfl, whl_one h hw hs, hN, World.ownsRow_lit w1 #[.int .i64 o.k, .int .i64 o.v.k, .int .i64 o.v.n, .string o.v.t, .string o.t] 1 hb.size (by unfold maxLen; omega) rfl, hb.alloc hb.size _⟩
theorem ops_lit (N : Nat) (hN : 1 ≤ N) (w : World) (k n d : Int) (s : ByteArray) (ao : Option Addr) (m cap : Nat) (hk : Rn k) (hn : Rn n) (hs : s.size ≤ maxLen) (hd : pck k 11 = 0 ∨ (2 < d ∧ 2 ≤ pck k 11)) :
  Calls Tryd.prog 32 #[.agg #[.int .i64 k, .int .i64 n, .string s, .slice ao m cap], .int .i64 d] w (OpsIs N w) := by
 have PK := hid (fun W => pck_any k 11 W hk (by omega) (by omega))
 have hqi := pck_in k 11 (by omega)
 obtain ⟨q, hq⟩ : ∃ q, q = pck k 11 := ⟨_, rfl⟩
 rw [← hq] at PK hqi hd
 have PN := hid (fun W => pck_any n 40 W hn (by omega) (by omega))
 obtain ⟨p0, p1⟩ := pck_in n 40 (by omega)
 obtain ⟨p, hp⟩ : ∃ p, p = pck n 40 := ⟨_, rfl⟩
 rw [← hp] at PN p0 p1
 have VC := hid (fun W => val_any n (p - 20) s W hn (by unfold Rn; omega) hs)
 have hlit := raw_lit n p s p0 p1
 have hrs := raw_size n (p - 20) s hs
 have hfi := raw_fi n p s p0 p1
 obtain ⟨u, hu⟩ : ∃ u, u = rawV n (p - 20) s := ⟨_, rfl⟩
 rw [← hu] at VC hlit hrs hfi
 obtain ⟨rk, rn, rt⟩ := u
 have ew : IntKind.i64.wrap (p - 20) = p - 20 := by rw [IntKind.wrap_i64]; omega
 have VC' : Hid (∀ W, Calls Tryd.prog 15 #[.agg #[.int .i64 n, .int .i64 (IntKind.i64.wrap (p - 20)), .string s]] W fun e w' => e = .returned (.agg #[.int .i64 rk, .int .i64 rn, .string rt]) ∧ Below W.heap.size W w') := by
  rw [ew]
  exact VC
 have CU : Hid (∀ W, Calls Tryd.prog 20 #[.string rt, .int .i64 4] W fun e w' => e = .returned (.string (cutS rt 4)) ∧ W = w') := hid (fun W => cut_any rt 4 W (by omega) hrs)
 have HLT := hid hlit
 have HFI := hid hfi
 clear hq hp hu hlit hrs hfi VC ew hk hn hs
 have hq0 : 0 ≤ q := hqi.1
 have hq1 : q < 11 := hqi.2
 clear hqi
 by_cases hq00 : q = 0
 ·subst hq00
  clear hd
  go_enter Tryd.func32, Tryd.ntmps32
  go_wp2_with (go_at_call 14; (with_reducible refine (PK.out _).mono ?_); rintro e w' ⟨rfl, rfl⟩)
  all_goals (
   change Code.wp _ ((regionOf 7 (Tryd.f32.body.getD .skip)).getD .skip) _ _ _
   refine lit7 _ _ w.heap.size (by simp; omega) n p rk rn s rt p0 p1 (by go_simp) (by go_simp) PN VC' (hid ?_)
   intro e0 e1 e2 e3 e4 e5 e6 e7 e8 e9 C w1 hC hlt hbox hb
   obtain ⟨b0, b1, b2, f0, f1, f2⟩ := box3 hbox
   have hC' : w.heap.size ≤ C := by simp at hC; omega
   have HB : Hid (Below w.heap.size w w1) := hid ((by go_grown : Below w.heap.size w _).trans (hb.mono (by simp; omega)))
   clear hb hbox hC
   go_wp2_with (go_at_call 20; (with_reducible refine (CU.out _).mono ?_); rintro e w2 ⟨rfl, rfl⟩)
   go_ret
   exact leaf_out (o := ⟨1, ⟨rk, rn, cutS rt 4⟩, ⟨#[]⟩⟩) (B := w1.heap.size) (by simp) (HB.out.setCell (p := ⟨C, 2, none⟩) hC' _) (op_lit HLT.out) rfl (sml_bare (by decide) HFI.out) N hN)
 ·have hd' : 2 < d := by omega
  have hq2 : 2 ≤ q := by omega
  have e1 : (1 + q == 1) = false := by simp; omega
  clear hd hq00
  go_enter Tryd.func32, Tryd.ntmps32
  go_wp2_with (go_at_call 14; (with_reducible refine (PK.out _).mono ?_); rintro e w' ⟨rfl, rfl⟩)
  all_goals (
   change Code.wp _ ((regionOf 7 (Tryd.f32.body.getD .skip)).getD .skip) _ _ _
   refine lit7 _ _ w.heap.size (by simp; omega) n p rk rn s rt p0 p1 (by go_simp) (by go_simp) PN VC' (hid ?_)
   intro e0 e1 e2 e3 e4 e5 e6 e7 e8 e9 C w1 hC hlt hbox hb
   obtain ⟨b0, b1, b2, f0, f1, f2⟩ := box3 hbox
   have hC' : w.heap.size ≤ C := by simp at hC; omega
   have HB : Hid (Below w.heap.size w w1) := hid ((by go_grown : Below w.heap.size w _).trans (hb.mono (by simp; omega)))
   clear hb hbox hC
   go_wp2_with (go_at_call 20; (with_reducible refine (CU.out _).mono ?_); rintro e w2 ⟨rfl, rfl⟩)
   go_ret
   exact leaf_out (o := ⟨1, ⟨rk, rn, cutS rt 4⟩, ⟨#[]⟩⟩) (B := w1.heap.size) (by simp) (HB.out.setCell (p := ⟨C, 2, none⟩) hC' _) (op_lit HLT.out) rfl (sml_bare (by decide) HFI.out) N hN)
theorem ops_col (N : Nat) (hN : 1 ≤ N) (w : World) (k n d : Int) (s : ByteArray) (ao : Option Addr) (m cap : Nat) (hk : Rn k) (hn : Rn n) (hd : pck k 11 = 1) :
  Calls Tryd.prog 32 #[.agg #[.int .i64 k, .int .i64 n, .string s, .slice ao m cap], .int .i64 d] w (OpsIs N w) := by
 have pk := fun W => pck_any k 11 W hk (by omega) (by omega)
 rw [hd] at pk
 have PK := hid pk
 have pn := fun W => pck_any n 4 W hn (by omega) (by omega)
 obtain ⟨p0, p1⟩ := pck_in n 4 (by omega)
 obtain ⟨j, hj⟩ : ∃ j : Nat, pck n 4 = (j : Int) := ⟨(pck n 4).toNat, by omega⟩
 rw [hj] at pn p0 p1
 have PN := hid pn
 have hj4 : j < 4 := by omega
 clear pk pn hj p0 p1 hd hk hn
 go_enter Tryd.func32, Tryd.ntmps32
 go_wp2_with (go_at_call 14; (with_reducible refine (PK.out _).mono ?_); rintro e w' ⟨rfl, rfl⟩)
 all_goals (
  obtain ⟨W0, hW0⟩ : ∃ W0 : World, W0 = (w.alloc (.cells #[.int .i64 k, .int .i64 n, .string s, .slice ao m cap] 25)).alloc (.cells #[.int .i64 d] 3) := ⟨_, rfl⟩
  have hb0 : Below w.heap.size w W0 := by rw [hW0]; go_grown
  have hb1 : Below w.heap.size w (W0.alloc (.cells #[.string ⟨#[105, 100]⟩, .string ⟨#[110]⟩, .string ⟨#[115]⟩, .string ⟨#[98]⟩] 9)) := hb0.alloc hb0.size _
  rw [← hW0]
  have hc : (W0.alloc (.cells #[.string ⟨#[105, 100]⟩, .string ⟨#[110]⟩, .string ⟨#[115]⟩, .string ⟨#[98]⟩] 9)).cell? ⟨W0.heap.size, j, none⟩ = some (.string (colL.getD j ⟨#[]⟩)) := by
   have h := new_cells W0 (colL.map Value.string) 9 j (.string (colL.getD j ⟨#[]⟩)) (by
    have hl : j < colL.length := hj4
    rw [List.getElem?_map, List.getElem?_eq_getElem hl, Option.map_some, List.getD, List.getElem?_eq_getElem hl]
    rfl)
   rw [Addr.add_lit, Nat.zero_add] at h
   exact h
  obtain ⟨c1, -⟩ := col_ok j hj4
  have c2 := col_sml (v := ⟨0, 0, ⟨#[]⟩⟩) hj4 ⟨by decide, by decide⟩
  obtain ⟨t, ht⟩ : ∃ t, t = colL.getD j ⟨#[]⟩ := ⟨_, rfl⟩
  rw [← ht] at hc c1 c2
  have hz : W0.heap.size = w.heap.size + 1 + 1 := by rw [hW0]; simp
  rw [hz] at hc
  have C1 := hid (And.intro c1 c2)
  have HB1 := hid hb1
  clear ht c1 c2 hb0 hb1 hW0
  refine (PN.out _).mono ?_
  rintro e w' ⟨rfl, rfl⟩
  go_wp2_with fail
  go_ret
  exact leaf_out (o := ⟨2, ⟨0, 0, ⟨#[]⟩⟩, t⟩) (B := w.heap.size + 1 + 1 + 1) (by simp [hz]) HB1.out (op_col C1.out.1) rfl C1.out.2 N hN)
end Go.Proofs.YtdeollmeljaaoaaDoor.tw
