/- The iterator as a range takes it, and the function that makes it. -/
import Derived.Test.YtacpeibkamfibaaTv
namespace Go.Proofs.Ytacpeibkamfibaa
open Go.ChangeShapes Go.WideShapes Go.ChangeAt Go.RowKit Go.Shelf
set_option linter.unusedVariables false
set_option linter.unusedSimpArgs false
set_option maxHeartbeats 2000000
set_option maxRecDepth 100000
attribute [local go_sem] Oper.semAt_some
/-- What entries hands out, as a range over it takes it. -/
theorem ents_hands (n Bt Bk : Nat) (hn : 1 ≤ n) (w w1 : World) (ok ok' : Nat → Prop) (hok : ∀ b, ok b → b < w.heap.size) (ao : Option Addr) (N cap : Nat) (ak : Option Addr) (nk ck : Nat) (T : Tr) (h : Nat) (t : Tb h) (k : Key)
    (ht : RT w ok (.agg #[.slice ao N cap, .int .i64 T.root]) T) (hr : Reps T h t) (hk : RB w ok' (.slice ak nk ck) k) (hN : T.pages.length ≤ 4000) (E : List (Key × Int)) (hE : E = (entT h t).filter fun e => !kl e.1 k)
    (hw : Below w.heap.size w w1) (hbt : w1.heap[Bt]? = some (.cells #[.slice ao N cap, .int .i64 T.root] 24 (0, 0))) (hbk : w1.heap[Bk]? = some (.cells #[.slice ak nk ck] 25 (0, 0))) :
    Hands Fence.wide n Try.prog 61 #[.pointer (some ⟨Bt, 0, none⟩), .pointer (some ⟨Bk, 0, none⟩)] encE (GE w.heap.size E) (KpE w.heap.size) (fun xs => xs.map (·.2) = E) (fun _ => True) w1 := fun l J Jx W hW hJb hY h0 => by
  refine (ents1_in n l Bt Bk hn w W ok ok' hok ao N cap ak nk ck T h t k ht hr hk hN E hE J Jx hJb hY (into hw hW) ((hW.block _ (Array.getElem?_eq_some_iff.1 hbt).1).trans hbt) ((hW.block _ (Array.getElem?_eq_some_iff.1 hbk).1).trans hbk) h0).mono ?_
  rintro e W' ⟨h1, h2⟩
  refine ⟨h1, ?_⟩
  rcases h2 with h2 | ⟨pre, h2⟩
  · exact .inl h2
  · exact .inr ⟨pre, trivial, h2⟩
theorem entries_in (n : Nat) (w : World) (ao : Option Addr) (N cap : Nat) (root : Int) (ak : Option Addr) (nk ck : Nat) :
    CallsIn Fence.wide n Try.prog 36 #[.agg #[.slice ao N cap, .int .i64 root], .slice ak nk ck] w fun e w' =>
      e = .returned (.func (.func 61) #[] #[.pointer (some ⟨w.heap.size, 0, none⟩), .pointer (some ⟨w.heap.size + 1, 0, none⟩)]) ∧ w' = (w.alloc (.cells #[.slice ao N cap, .int .i64 root] 24)).alloc (.cells #[.slice ak nk ck] 25) := by
  refine callsIn_of_wp Try.func36 rfl trivial ?_ rfl
  simp only [Try.ntmps36, List.size_toArray, List.length_cons, List.length_nil, Nat.reduceAdd, Nat.reduceSub, Array.replicate_succ, Array.replicate_zero, List.push_toArray, List.append_toArray, List.nil_append, List.cons_append]
  gi_wp2
  go_ret
  exact ⟨rfl, rfl⟩
end Go.Proofs.Ytacpeibkamfibaa
