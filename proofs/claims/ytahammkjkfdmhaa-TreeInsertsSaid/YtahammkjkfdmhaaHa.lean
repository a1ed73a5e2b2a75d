/- Plain trees: a check that goes level by level, and what it has met. No program in sight. -/
import Derived.Test.YtahammkjkfdmhaaB1
import Derived.Test.YtahammkjkfdmhaaGu
import Derived.Lib.Bytealg
import Derived.Laws.Externs
import Derived.Deep.LoopGhost
namespace Go.Proofs.Ytahammkjkfdmhaa
set_option linter.unusedVariables false
set_option linter.unusedSimpArgs false
/-- A page by itself, whatever stands above it. -/
structure OkQ (p : Pg) (many : Nat) : Prop where
  keys : p.keys.length ≤ 4
  okk : ∀ k ∈ p.keys, okK k
  rise : p.keys.Pairwise fun a b => kl a b = true
  kids : p.kids.length = if p.leaf then p.keys.length else p.keys.length + 1
  some : p.leaf = false → 1 ≤ p.keys.length
  kid : ∀ c ∈ p.kids, 0 ≤ c ∧ (p.leaf = false → c < many)
theorem OkPg.q {p : Pg} {n : Nat} (h : OkPg p n) : OkQ p n := ⟨h.keys, fun k hk => (h.okk k hk).1, h.rise, h.kids, h.some, h.kid⟩
/-- A level, each key held against both bounds. -/
def okLw (ps : List Pg) (leaf : Bool) : List Spot → Prop
  | [] => True
  | x :: r => ((ps.getD x.1 noPg).next = rightOf r ∧ (ps.getD x.1 noPg).high = x.2.2 ∧ (ps.getD x.1 noPg).leaf = leaf ∧ (∀ k ∈ (ps.getD x.1 noPg).keys, inB x.2.1 x.2.2 k)) ∧ okLw ps leaf r
theorem okLw_okLv {ps : List Pg} {leaf : Bool} : ∀ {l : List Spot}, okLw ps leaf l → okLv ps leaf l
  | [], _ => trivial
  | x :: r, ⟨⟨h1, h2, h3, h4⟩, h5⟩ => ⟨⟨h1, h2, h3, fun k r hk => (h4 k (by rw [hk]; simp)).1⟩, okLw_okLv h5⟩
theorem okLv_okLw {ps : List Pg} {leaf : Bool} {n : Nat} : ∀ {l : List Spot}, okLv ps leaf l → (∀ x ∈ l, OkPg (ps.getD x.1 noPg) n) → okLw ps leaf l
  | [], _, _ => trivial
  | x :: r, ⟨⟨h1, h2, h3, h4⟩, h5⟩, hp => by
    refine ⟨⟨h1, h2, h3, fun k hk => ⟨?_, ?_⟩⟩, okLv_okLw h5 fun y hy => hp y (by simp [hy])⟩
    · have hx := hp x (by simp)
      have hr := hx.rise
      cases hks : (ps.getD x.1 noPg).keys with
      | nil => rw [hks] at hk; simp at hk
      | cons s ss =>
        have h0 := h4 s ss hks
        rw [hks] at hk hr
        simp only [List.mem_cons] at hk
        rcases hk with rfl | hk
        · exact h0
        · have h1 := (List.pairwise_cons.1 hr).1 k hk
          exact kl_le_trans h0 (kl_not h1)
    · have := ((hp x (by simp)).okk k hk).2
      rw [h2] at this
      exact this
/-- The levels from the root down to one, with all places above it. -/
inductive Run (ps : List Pg) (r : Nat) : List Nat → List Spot → Prop
  | start : Run ps r [] [(r, [], [])]
  | more (a : List Nat) (l : List Spot) (leaf : Bool) : Run ps r a l → l ≠ [] → okLv ps leaf l → Run ps r (a ++ l.map (·.1)) (downL ps l)
theorem run_back {ps : List Pg} {r : Nat} {a : List Nat} {l : List Spot} (h : Run ps r a l) : ∀ b, Levels ps l b → Levels ps [(r, [], [])] (a ++ b) := by
  induction h with
  | start => intro b hb; exact hb
  | more a l leaf _ hl hok ih =>
    intro b hb
    rw [List.append_assoc]
    exact ih _ (.more l leaf b hl hok hb)
theorem run_on {ps : List Pg} {r : Nat} {a b : List Nat} {l : List Spot} (hb : Levels ps [(r, [], [])] b) (h : Run ps r a l) : ∃ b', Levels ps l b' ∧ b = a ++ b' := by
  induction h with
  | start => exact ⟨b, hb, rfl⟩
  | more a l leaf _ hl hok ih =>
    obtain ⟨b', h1, rfl⟩ := ih
    cases h1 with
    | done => exact absurd rfl hl
    | more l leaf' a' _ _ h2 => exact ⟨a', h2, by rw [List.append_assoc]⟩
theorem Pass.run {T : Tr} (hp : Pass T) : ∃ b, Levels T.pages [(T.root.toNat, [], [])] b ∧ b.length = T.pages.length ∧ b.Nodup ∧ ∀ x ∈ b, x < T.pages.length := by
  obtain ⟨b, h1, h2⟩ := hp.levels
  have hr : T.root.toNat < T.pages.length := by have := hp.root; omega
  obtain ⟨g1, g2⟩ := levels_once hp.page (r := T.root.toNat) (by rw [all_kids]; exact hp.once) h1 [] (by simp) (by simpa using hr) (by simp) (by simp)
  exact ⟨b, h1, h2, by simpa using g1, by simpa using g2⟩
/-- Where all passes, each level does. -/
theorem pass_level {T : Tr} {a : List Nat} {l : List Spot} (hp : Pass T) (h : Run T.pages T.root.toNat a l) (hl : l ≠ []) :
    ∃ leaf, okLv T.pages leaf l ∧ (a ++ l.map (·.1)).Nodup ∧ a.length + l.length ≤ T.pages.length ∧ ∀ x ∈ l, x.1 < T.pages.length := by
  obtain ⟨b, h1, h2, h3, h4⟩ := hp.run
  obtain ⟨b', g1, rfl⟩ := run_on h1 h
  cases g1 with
  | done => exact absurd rfl hl
  | more l leaf a' _ hok h5 =>
    refine ⟨leaf, hok, ?_, ?_, fun x hx => h4 _ ?_⟩
    · rw [← List.append_assoc] at h3
      exact (List.nodup_append.1 h3).1
    · simp only [List.length_append, List.length_map] at h2
      omega
    · simp only [List.mem_append, List.mem_map]
      exact .inr (.inl ⟨x, hx, rfl⟩)
theorem pass_end {T : Tr} {a : List Nat} (hp : Pass T) (h : Run T.pages T.root.toNat a []) : a.length = T.pages.length := by
  obtain ⟨b, h1, h2, h3, h4⟩ := hp.run
  obtain ⟨b', g1, rfl⟩ := run_on h1 h
  have := g1.nil
  subst this
  simpa using h2
/-- Upper bounds: none at the right end, and there alone. -/
def Ends : List Spot → Prop
  | [] => True
  | x :: r => ((r = [] ∧ x.2.2 = []) ∨ (r ≠ [] ∧ okK x.2.2)) ∧ Ends r
theorem kidsB_ne {lo hi : Key} : ∀ {cs : List Int} {ss : List Key}, cs ≠ [] → kidsB lo hi cs ss ≠ []
  | [], _, h => absurd rfl h
  | _ :: _, [], _ => by simp [kidsB]
  | _ :: _, _ :: _, _ => by simp [kidsB]
theorem ends_kids : ∀ (ss : List Key) (cs : List Int) (lo hi : Key) (rest : List Spot), cs.length = ss.length + 1 → (∀ k ∈ ss, okK k) → ((rest = [] ∧ hi = []) ∨ (rest ≠ [] ∧ okK hi)) → Ends rest → Ends (kidsB lo hi cs ss ++ rest)
  | [], [c], lo, hi, rest, _, _, h, hr => by
    simp only [kidsB, List.cons_append, List.nil_append]
    exact ⟨h, hr⟩
  | s :: ss, c :: cs, lo, hi, rest, hl, hk, h, hr => by
    simp only [kidsB, List.cons_append]
    refine ⟨.inr ⟨?_, hk s (by simp)⟩, ends_kids ss cs s hi rest (by simpa using hl) (fun k hk' => hk k (by simp [hk'])) h hr⟩
    have : cs ≠ [] := by rintro rfl; simp at hl
    simp [kidsB_ne this]
  | [], [], _, _, _, hl, _, _, _ => by simp at hl
  | [], _ :: _ :: _, _, _, _, hl, _, _, _ => by simp at hl
  | _ :: _, [], _, _, _, hl, _, _, _ => by simp at hl
theorem downL_cons (ps : List Pg) (x : Spot) (r : List Spot) : downL ps (x :: r) = downP ps x ++ downL ps r := by simp [downL]
theorem downP_ne {ps : List Pg} {x : Spot} {n : Nat} (hq : OkQ (ps.getD x.1 noPg) n) (hl : (ps.getD x.1 noPg).leaf = false) : downP ps x ≠ [] := by
  unfold downP
  rw [if_neg (by rw [hl]; simp)]
  refine kidsB_ne ?_
  intro h
  have h1 := hq.kids
  have h2 := hq.some hl
  rw [h, hl] at h1
  simp at h1
theorem ends_down {ps : List Pg} {n : Nat} {leaf : Bool} : ∀ {l : List Spot}, (∀ x ∈ l, OkQ (ps.getD x.1 noPg) n) → okLw ps leaf l → Ends l → Ends (downL ps l)
  | [], _, _, _ => trivial
  | x :: r, hq, ⟨⟨h1, h2, h3, h4⟩, h5⟩, ⟨he, hr⟩ => by
    have ih := ends_down (fun y hy => hq y (by simp [hy])) h5 hr
    have hx := hq x (by simp)
    rw [downL_cons]
    cases leaf with
    | true =>
      have : downP ps x = [] := by unfold downP; rw [if_pos h3]
      rw [this]; exact ih
    | false =>
      have hk := hx.kids
      rw [h3] at hk
      simp only [Bool.false_eq_true, if_false] at hk
      unfold downP
      rw [if_neg (by rw [h3]; simp)]
      refine ends_kids _ _ _ _ _ hk hx.okk ?_ ih
      rcases he with ⟨rfl, h⟩ | ⟨hne, h⟩
      · exact .inl ⟨rfl, h⟩
      · refine .inr ⟨?_, h⟩
        cases r with
        | nil => exact absurd rfl hne
        | cons y r =>
          rw [downL_cons]
          intro h0
          exact downP_ne (hq y (by simp)) h5.1.2.2.1 (List.append_eq_nil_iff.1 h0).1
theorem ends_pages {ps : List Pg} {n : Nat} {leaf : Bool} : ∀ {l : List Spot}, (∀ x ∈ l, x.1 < n ∧ OkQ (ps.getD x.1 noPg) n) → okLw ps leaf l → Ends l → ∀ x ∈ l, OkPg (ps.getD x.1 noPg) n
  | [], _, _, _ => by simp
  | x :: r, hq, ⟨⟨h1, h2, h3, h4⟩, h5⟩, ⟨he, hr⟩ => by
    intro y hy
    simp only [List.mem_cons] at hy
    rcases hy with rfl | hy
    · obtain ⟨_, hx⟩ := hq y (by simp)
      have hh : y.2.2.length ≤ 100 := by
        rcases he with ⟨_, h⟩ | ⟨_, h⟩
        · rw [h]; simp
        · exact h.2
      refine ⟨hx.keys, by rw [h2]; exact hh, ?_, ?_, hx.kids, hx.some, fun k hk => ⟨hx.okk k hk, by rw [h2]; exact (h4 k hk).2⟩, hx.rise, hx.kid⟩
      · rw [h1]
        cases r with
        | nil => simp only [rightOf]; have := (hq y (by simp)).1; omega
        | cons z r => simp only [rightOf]; have := (hq z (by simp)).1; omega
      · rw [h1, h2]
        rcases he with ⟨rfl, h⟩ | ⟨hne, h⟩
        · simp [rightOf, h]
        · cases r with
          | nil => exact absurd rfl hne
          | cons z r => simp only [rightOf]; exact ⟨fun q => by omega, fun q => absurd q h.ne⟩
    · exact ends_pages (fun z hz => hq z (by simp [hz])) h5 hr y hy
/-- What a check has met. -/
structure Met (T : Tr) (a : List Nat) (l : List Spot) : Prop where
  run : Run T.pages T.root.toNat a l
  once : a.Nodup
  page : ∀ i ∈ a, i < T.pages.length ∧ OkPg (T.pages.getD i noPg) T.pages.length
  ends : Ends l
  here : ∀ x ∈ l, x.1 < T.pages.length
theorem Met.few {T : Tr} {a : List Nat} {l : List Spot} (h : Met T a l) : a.length ≤ T.pages.length := by
  exact _root_.Go.Proofs.Ytahammkjkfdmhaa.few _ a h.once fun x hx => (h.page x hx).1
theorem met_start {T : Tr} (hr : 0 ≤ T.root ∧ T.root < T.pages.length) : Met T [] [(T.root.toNat, [], [])] :=
  ⟨.start, by simp, by simp, ⟨.inl ⟨rfl, rfl⟩, trivial⟩, by simp; omega⟩
theorem page_mem {ps : List Pg} {i : Nat} (h : i < ps.length) : ps.getD i noPg ∈ ps := by
  simp only [List.getD, List.getElem?_eq_getElem h, Option.getD_some]
  exact List.getElem_mem h
theorem kidsOf_ltq {ps : List Pg} (hok : ∀ p ∈ ps, OkQ p ps.length) {i j : Nat} (hi : i < ps.length) (hj : j ∈ kidsOf ps i) : j < ps.length := by
  unfold kidsOf kidsP at hj
  have hq := hok _ (page_mem hi)
  split at hj
  · simp at hj
  · rename_i hl
    obtain ⟨c, hc, rfl⟩ := List.mem_map.1 hj
    have := hq.kid c hc
    have h2 := this.2 (by simpa using hl)
    omega
theorem downL_ltq {ps : List Pg} (hok : ∀ p ∈ ps, OkQ p ps.length) {l : List Spot} (hl : ∀ x ∈ l, x.1 < ps.length) : ∀ x ∈ downL ps l, x.1 < ps.length := by
  intro x hx
  have hm : x.1 ∈ (downL ps l).map (·.1) := List.mem_map.2 ⟨x, hx, rfl⟩
  rw [downL_places] at hm
  obtain ⟨i, hi, hj⟩ := List.mem_flatMap.1 hm
  obtain ⟨y, hy, rfl⟩ := List.mem_map.1 hi
  exact kidsOf_ltq hok (hl y hy) hj
theorem met_step {T : Tr} {a : List Nat} {l : List Spot} {leaf : Bool} (hq : ∀ p ∈ T.pages, OkQ p T.pages.length) (h : Met T a l) (hl : l ≠ []) (hn : (a ++ l.map (·.1)).Nodup) (hok : okLw T.pages leaf l) : Met T (a ++ l.map (·.1)) (downL T.pages l) := by
  have hql : ∀ x ∈ l, x.1 < T.pages.length ∧ OkQ (T.pages.getD x.1 noPg) T.pages.length := fun x hx => ⟨h.here x hx, hq _ (page_mem (h.here x hx))⟩
  refine ⟨.more a l leaf h.run hl (okLw_okLv hok), hn, ?_, ends_down (fun x hx => (hql x hx).2) hok h.ends, downL_ltq hq h.here⟩
  intro i hi
  simp only [List.mem_append, List.mem_map] at hi
  rcases hi with hi | ⟨x, hx, rfl⟩
  · exact h.page i hi
  · exact ⟨h.here x hx, ends_pages hql hok h.ends x hx⟩
/-- When all have been met, all passes. -/
theorem met_end {T : Tr} {a : List Nat} (hr : 0 ≤ T.root ∧ T.root < T.pages.length) (h : Met T a []) (hn : a.length = T.pages.length) : Pass T := by
  have hlt : ∀ x ∈ a, x < T.pages.length := fun x hx => (h.page x hx).1
  have hperm := all_of _ a h.once hlt hn
  have hlv := run_back h.run [] .done
  rw [List.append_nil] at hlv
  refine ⟨hr, fun p hp => ?_, ⟨a, hlv, hn⟩, ?_⟩
  · obtain ⟨i, hi, rfl⟩ := List.mem_iff_getElem.1 hp
    have := (h.page i (hperm.symm.subset (List.mem_range.2 hi))).2
    simpa [List.getD, hi] using this
  · have hk := levels_kids hlv
    have h2 : (a.flatMap (kidsOf T.pages)).Perm (T.pages.flatMap kidsP) := by
      rw [← all_kids]
      exact hperm.flatMap_right _
    have h3 : a.Perm (T.root.toNat :: T.pages.flatMap kidsP) := hk.trans (h2.cons _)
    exact h3.nodup_iff.1 h.once
end Go.Proofs.Ytahammkjkfdmhaa
/- Keys compared, copied, asked for: the program's and the document's small functions. -/
namespace Go.Proofs.Ytahammkjkfdmhaa
open Go.ChangeShapes Go.WideShapes Go.ChangeAt Go.RowKit
set_option linter.unusedVariables false
set_option linter.unusedSimpArgs false
set_option maxHeartbeats 400000
/-- How two keys stand. -/
def cmpK (a b : Key) : Int := Lib.compareBytes a b
theorem cmpK_is : ∀ a b : Key, cmpK a b = if kl a b then -1 else if kl b a then 1 else 0
  | [], [] => rfl
  | [], _ :: _ => rfl
  | _ :: _, [] => rfl
  | a :: xs, b :: ys => by
    have ih := cmpK_is xs ys
    unfold cmpK kl at *
    simp only [Lib.compareBytes, Op.bytesLess]
    rw [ih]
    by_cases h : a < b
    · simp [h]
    · by_cases g : b < a
      · have hne : ¬ a = b := by rintro rfl; exact h g
        simp [h, g, hne]
      · have he : a = b := by
          rw [UInt8.lt_iff_toNat_lt] at h g
          exact UInt8.toNat_inj.1 (by omega)
        subst he
        simp [h]
theorem cmpK_lt (a b : Key) : cmpK a b < 0 ↔ kl a b = true := by
  rw [cmpK_is]
  by_cases h : kl a b = true <;> simp [h]
  split <;> omega
theorem cmpK_eq (a b : Key) : cmpK a b = 0 ↔ a = b := by
  rw [cmpK_is]
  by_cases h : kl a b = true
  · simp only [h, if_true]
    refine ⟨fun g => by omega, ?_⟩
    rintro rfl
    have := bl_irr a
    rw [show Op.bytesLess a a = kl a a from rfl, h] at this
    cases this
  · by_cases g : kl b a = true
    · simp only [h, g, if_true, Bool.false_eq_true, if_false]
      refine ⟨fun g => by omega, ?_⟩
      rintro rfl
      exact absurd g h
    · simp only [h, g, Bool.false_eq_true, if_false, true_iff]
      exact bl_tri a b (by simpa using h) (by simpa using g)
theorem cmpK_gt (a b : Key) : 0 < cmpK a b ↔ kl b a = true := by
  rw [cmpK_is]
  by_cases h : kl a b = true
  · simp [h, kl_not h]
  · by_cases g : kl b a = true <;> simp [h, g]
theorem cmpK_rng (a b : Key) : -1 ≤ cmpK a b ∧ cmpK a b ≤ 1 := by
  rw [cmpK_is]
  split
  · omega
  · split <;> omega
theorem run_loadB {w : World} : ∀ (l : List UInt8) (a : Addr) (acc : ByteArray), (∀ j u, (bc l)[j]? = some u → w.cell? (a.add j) = some u) →
    (Extern.Bytes.loadBytes a l.length acc).run Try.prog w = .ok ⟨acc.data ++ l.toArray⟩ w
  | [], a, acc, _ => by simp [Extern.Bytes.loadBytes]
  | b :: l, a, acc, h => by
    have h0 := h 0 (.int .u8 (b.toNat : Int)) (by simp [bc])
    rw [Addr.add_zero'] at h0
    have ih := run_loadB l (a.add 1) (acc.push b) (fun j u hu => by
      rw [Go.Deep.add_add, Nat.add_comm]
      exact h (j + 1) u (by simpa [bc] using hu))
    simp only [List.length_cons, Extern.Bytes.loadBytes, Sem.run_bind, run_load, h0, Result.andThen]
    have e : (b.toNat : Int).toNat.toUInt8 = b := by simp
    rw [e, ih]
    simp
theorem run_bytes {w : World} {v : Value} {l : List UInt8} (h : Rd w 1 l.length v (bc l)) : (Extern.Bytes.bytesOf v).run Try.prog w = .ok ⟨l.toArray⟩ w := by
  obtain ⟨h1, ao, cap, rfl, h3, h4, h5, h6⟩ := h
  cases ao with
  | none =>
    have := (h5 rfl).1
    have hl : l = [] := List.eq_nil_of_length_eq_zero this
    subst hl
    rfl
  | some a =>
    show (Extern.Bytes.loadBytes a l.length .empty).run Try.prog w = _
    rw [run_loadB l a .empty (h6 a rfl)]
    simp
theorem run_cmp {w : World} {u v : Value} {a b : Key} (hu : Rd w 1 a.length u (bc a)) (hv : Rd w 1 b.length v (bc b)) : (Extern.BytealgCompare.compare #[u, v]).run Try.prog w = .ok (.int .i64 (cmpK a b)) w := by
  change Sem.run Try.prog (do pure (goInt (Extern.BytealgCompare.cmp (← Extern.Bytes.bytesOf u) (← Extern.Bytes.bytesOf v)))) w = _
  simp only [Sem.run_bind, run_bytes hu, run_bytes hv, Sem.run_pure, Result.andThen]
  rw [Lib.cmp_eq]
  rfl
theorem cmp_any (w : World) (u v : Value) (a b : Key) (hu : Rd w 1 a.length u (bc a)) (hv : Rd w 1 b.length v (bc b)) :
    Calls Try.prog 41 #[u, v] w fun e w' => e = .returned (.int .i64 (cmpK a b)) ∧ w = w' := by
  have hr := run_cmp hu hv
  have HR := Lib.hid hr
  clear hr hu hv
  go_enter Try.func41, Try.ntmps41
  go_wp2
  rw [run_callFunc_extern Try.func54 (by kernel_rfl) (by kernel_rfl) (by kernel_rfl) (e := Extern.BytealgCompare.compare) (by kernel_rfl), HR.out]
  simp only [Result.andThen]
  rw [Oper.upon_value]
  go_wp2
  go_ret
  exact ⟨rfl, rfl⟩
theorem barr_eq {a b : List UInt8} : ((⟨a.toArray⟩ : ByteArray) = ⟨b.toArray⟩) ↔ a = b := by simp
theorem eql_any (w : World) (u v : Value) (a b : Key) (hu : Rd w 1 a.length u (bc a)) (hv : Rd w 1 b.length v (bc b)) :
    Calls Try.prog 71 #[u, v] w fun e w' => e = .returned (.bool (decide (a = b))) ∧ w = w' := by
  have h1 := str_of hu
  have h2 := str_of hv
  go_enter Try.func71, Try.ntmps71
  go_wp2
  go_ret
  refine ⟨rb ?_, rfl⟩
  rw [Bool.eq_iff_iff]
  simp
theorem same_any (w : World) (u v : Value) (a b : Key) (hu : Rd w 1 a.length u (bc a)) (hv : Rd w 1 b.length v (bc b)) :
    Calls Try.prog 27 #[u, v] w fun e w' => e = .returned (.bool (decide (a = b))) ∧ w = w' := by
  have h1 := str_of hu
  have h2 := str_of hv
  go_enter Try.func27, Try.ntmps27
  go_wp2
  go_ret
  refine ⟨rb ?_, rfl⟩
  rw [Bool.eq_iff_iff]
  simp
theorem bef_any (w : World) (u v : Value) (a b : Key) (hu : Rd w 1 a.length u (bc a)) (hv : Rd w 1 b.length v (bc b)) :
    Calls Try.prog 39 #[u, v] w fun e w' => e = .returned (.bool (kl a b)) ∧ w = w' := by
  have h1 := str_of hu
  have h2 := str_of hv
  go_enter Try.func39, Try.ntmps39
  go_wp2
  go_ret
  refine ⟨rb ?_, rfl⟩
  simp [kl, list_of]
/-- May a key be one? -/
def keyB (k : Key) : Bool := decide (1 ≤ k.length) && decide (k.length ≤ 100)
theorem keyB_iff (k : Key) : keyB k = true ↔ okK k := by simp [keyB, okK]
theorem in_any (w : World) (a b c : Int) : Calls Try.prog 51 #[.int .i64 a, .int .i64 b, .int .i64 c] w fun e w' => e = .returned (.bool (decide (b ≤ a) && decide (a ≤ c))) ∧ w = w' := by
  by_cases h : b ≤ a
  all_goals (
    go_enter Try.func51, Try.ntmps51
    go_wp2
    go_ret
    refine ⟨rb ?_, rfl⟩
    simp [h]
    try omega)
theorem keyMay_any (w : World) (u : Value) (k : Key) (hu : Rd w 1 k.length u (bc k)) :
    Calls Try.prog 37 #[u] w fun e w' => e = .returned (.bool (keyB k)) ∧ w = w' := by
  obtain ⟨_, ao, cap, rfl, h3, h4, _, _⟩ := hu
  unfold maxLen at h4
  go_enter Try.func37, Try.ntmps37
  go_wp2_with (go_at_call 51; refine (in_any _ _ _ _).mono ?_; rintro e w' ⟨rfl, rfl⟩)
  go_ret
  refine ⟨rb ?_, rfl⟩
  unfold keyB
  congr 1 <;> simp <;> omega
theorem isKey_any (w : World) (u : Value) (k : Key) (hu : Rd w 1 k.length u (bc k)) :
    Calls Try.prog 30 #[u] w fun e w' => e = .returned (.bool (keyB k)) ∧ w = w' := by
  obtain ⟨_, ao, cap, rfl, h3, h4, _, _⟩ := hu
  unfold maxLen at h4
  obtain ⟨n, hn⟩ : ∃ n, n = k.length := ⟨_, rfl⟩
  have he : keyB k = (decide (1 ≤ n) && decide (n ≤ 100)) := by rw [hn]; rfl
  rw [he, ← hn]
  rw [← hn] at h3
  clear he hn
  by_cases h : 1 ≤ n
  all_goals (
    have h' : (0 : Int) < (n : Int) ∨ ¬ (0 : Int) < (n : Int) := by omega
    go_enter Try.func30, Try.ntmps30
    go_wp2
    go_ret
    refine ⟨rb ?_, rfl⟩
    simp [h]
    try omega)
end Go.Proofs.Ytahammkjkfdmhaa
/- Keys searched among keys that rise. -/
namespace Go.Proofs.Ytahammkjkfdmhaa
open Go.ChangeShapes Go.WideShapes Go.ChangeAt Go.RowKit
set_option linter.unusedVariables false
set_option linter.unusedSimpArgs false
set_option maxHeartbeats 1000000
/-- How many keys stand ahead of one. -/
def lbK (k : Key) : List Key → Nat
  | [] => 0
  | s :: r => if kl s k then lbK k r + 1 else 0
/-- Is the first one that does not the key itself? -/
def hasK (k : Key) (ks : List Key) : Bool := decide (lbK k ks < ks.length ∧ ks.getD (lbK k ks) [] = k)
theorem lbK_le (k : Key) : ∀ ks, lbK k ks ≤ ks.length
  | [] => Nat.le_refl _
  | s :: r => by
    by_cases h : kl s k = true
    · simp [lbK, h, lbK_le k r]
    · simp [lbK, h]
theorem lbK_of {k : Key} : ∀ {ks : List Key} {i : Nat}, i ≤ ks.length → (∀ m, m < i → kl (ks.getD m []) k = true) → (i < ks.length → kl (ks.getD i []) k = false) → lbK k ks = i
  | [], i, h, _, _ => by simp at h; subst h; rfl
  | s :: r, 0, _, _, h => by
    have := h (by simp)
    simp only [List.getD_cons_zero] at this
    simp [lbK, this]
  | s :: r, i + 1, h, h1, h2 => by
    have h0 := h1 0 (by omega)
    simp only [List.getD_cons_zero] at h0
    have ih := lbK_of (k := k) (ks := r) (i := i) (by simpa using h) (fun m hm => by simpa using h1 (m + 1) (by omega)) (fun hi => by simpa using h2 (by simpa using hi))
    simp [lbK, h0, ih]
/-- Keys that rise. -/
abbrev RiseK (ks : List Key) : Prop := ks.Pairwise fun a b => kl a b = true
theorem rise_at {ks : List Key} (h : RiseK ks) {i j : Nat} (hij : i < j) (hj : j < ks.length) : kl (ks.getD i []) (ks.getD j []) = true := by
  have := List.pairwise_iff_getElem.1 h i j (by omega) hj hij
  simpa [List.getD, hj, (by omega : i < ks.length)] using this
theorem cnt_lb {k : Key} : ∀ {ks : List Key}, RiseK ks → cntK k ks = if hasK k ks then lbK k ks + 1 else lbK k ks
  | [], _ => by simp [cntK, hasK, lbK]
  | s :: r, h => by
    rw [RiseK, List.pairwise_cons] at h
    have ih := cnt_lb (k := k) h.2
    by_cases h1 : kl s k = true
    · have h2 := kl_not h1
      have hh : hasK k (s :: r) = hasK k r := by simp [hasK, lbK, h1]
      rw [hh]
      simp only [cntK, h2, Bool.false_eq_true, if_false, ih, lbK, h1, if_true]
      cases hasK k r <;> rfl
    · have h1' : kl s k = false := by simpa using h1
      by_cases h2 : kl k s = true
      · have hne : s ≠ k := by rintro rfl; rw [h2] at h1'; cases h1'
        simp [cntK, h2, hasK, lbK, h1', hne]
      · have he : s = k := bl_tri s k h1' (by simpa using h2)
        subst he
        have h0 : cntK s r = 0 := by
          cases r with
          | nil => rfl
          | cons x r => simp [cntK, h.1 x (by simp)]
        simp [cntK, h1', hasK, lbK, h0]
theorem has_mem {k : Key} : ∀ {ks : List Key}, RiseK ks → (hasK k ks = true ↔ k ∈ ks)
  | [], _ => by simp [hasK, lbK]
  | s :: r, h => by
    rw [RiseK, List.pairwise_cons] at h
    have ih := has_mem (k := k) h.2
    by_cases h1 : kl s k = true
    · have hne : ¬ k = s := by rintro rfl; have := bl_irr k; rw [show Op.bytesLess k k = kl k k from rfl, h1] at this; cases this
      simp only [hasK, lbK, h1, if_true, List.length_cons, List.getD_cons_succ, Nat.add_lt_add_iff_right, List.mem_cons, hne, false_or]
      exact ih
    · have h1' : kl s k = false := by simpa using h1
      simp only [hasK, lbK, h1', Bool.false_eq_true, if_false, List.length_cons, List.getD_cons_zero, decide_eq_true_eq, List.mem_cons]
      constructor
      · rintro ⟨_, rfl⟩; exact .inl rfl
      · rintro (rfl | hm)
        · exact ⟨by omega, rfl⟩
        · exact absurd (h.1 k hm) (by rw [h1']; simp)
/-- What a slice of keys is. -/
theorem keys_of {w : World} {ok : Nat → Prop} {v : Value} {ks : List Key} (h : RK w ok v ks) (hn : 0 < ks.length) :
    ∃ b o cap, ∃ f : Nat → Value, v = .slice (some ⟨b, o, none⟩) ks.length cap ∧ ks.length ≤ cap ∧ cap ≤ maxLen ∧ b < w.heap.size ∧ ok b ∧ ∀ i, i < ks.length → w.cell? ⟨b, o + i, none⟩ = some (f i) ∧ RB w ok (f i) (ks.getD i []) := by
  obtain ⟨vs, h1, h2, h3⟩ := h
  obtain ⟨b, o, cap, rfl, g1, g2, g3, g4⟩ := h1.pos hn (by omega)
  refine ⟨b, o, cap, fun i => vs.getD i undef, rfl, g1, g2, g3, h2 _ _ _ rfl hn, fun i hi => ?_⟩
  obtain ⟨x, hx, hr⟩ := h3 i ks[i] (List.getElem?_eq_getElem hi)
  have e1 : vs.getD i undef = x := by simp [List.getD, hx]
  have e2 : ks.getD i [] = ks[i] := by simp [List.getD, hi]
  refine ⟨?_, ?_⟩
  · rw [g4 i x hx]; exact congrArg some e1.symm
  · show RB w ok (vs.getD i undef) _
    rw [e1, e2]; exact hr
theorem keys_zero {w : World} {ok : Nat → Prop} {v : Value} {ks : List Key} (h : RK w ok v ks) (hn : ks.length = 0) : ks = [] ∧ ∃ ao cap, v = .slice ao 0 cap ∧ cap ≤ maxLen := by
  obtain ⟨vs, h1, h2, h3⟩ := h
  rw [hn] at h1
  exact ⟨List.eq_nil_of_length_eq_zero hn, h1.zero.2⟩
theorem RB.rd {w : World} {ok : Nat → Prop} {v : Value} {l : List UInt8} (h : RB w ok v l) : Rd w 1 l.length v (bc l) := h.1
theorem bsf_any (w : World) (ok ok' : Nat → Prop) (v u : Value) (ks : List Key) (k : Key) (hv : RK w ok v ks) (hu : RB w ok' u k) (hr : RiseK ks) (hsm : ks.length ≤ 1000000) :
    Calls Try.prog 40 #[v, u, .func (.func 41) #[] #[]] w fun e w' => e = .returned (.tuple #[.int .i64 (lbK k ks : Nat), .bool (hasK k ks)]) ∧ w = w' := by
  by_cases h0 : ks.length = 0
  · obtain ⟨rfl, ao, cap, rfl, _⟩ := keys_zero hv h0
    go_enter Try.func40, Try.ntmps40
    go_wp2
    go_rounds 1
    go_ret2
    exact ⟨by simp [lbK, hasK], rfl⟩
  · obtain ⟨b, o, cap, f, rfl, hn, hcap, hb, _, hc⟩ := keys_of hv (by omega)
    obtain ⟨n, hnn⟩ : ∃ n, n = ks.length := ⟨_, rfl⟩
    rw [← hnn] at h0 hn hc hsm ⊢
    unfold maxLen at hcap
    have HC := Lib.hid hc
    have HU := Lib.hid hu
    have HR := Lib.hid hr
    have HN := Lib.hid hnn
    clear hc hu hr hv hnn
    go_enter Try.func40, Try.ntmps40
    go_wp2
    go_loop [9, 10] (fun x y => ∃ i j : Nat, i ≤ j ∧ j ≤ n ∧ x = .int .i64 (i : Int) ∧ y = .int .i64 (j : Int) ∧ (∀ m, m < i → kl (ks.getD m []) k = true) ∧ (∀ m, j ≤ m → m < n → kl (ks.getD m []) k = false)) (fun x y => (intOf y).toNat - (intOf x).toNat)
    case atStart => exact ⟨0, n, by omega, by omega, rfl, rfl, fun m hm => by omega, fun m h1 h2 => by omega⟩
    case round =>
      obtain ⟨i, j, hij, hj, rfl, rfl, hlo, hhi⟩ := hrel
      have HLO := Lib.hid hlo
      have HHI := Lib.hid hhi
      clear hlo hhi
      by_cases hlt : i < j
      · obtain ⟨m, hm⟩ : ∃ m, m = (i + j) / 2 := ⟨_, rfl⟩
        have hm1 : i ≤ m := by omega
        have hm2 : m < j := by omega
        have hmid : ((i : Int) + (j : Int)) / 2 = (m : Int) := by omega
        obtain ⟨c1, c2⟩ := HC.out m (by omega)
        obtain ⟨s, hs⟩ : ∃ s, s = ks.getD m [] := ⟨_, rfl⟩
        rw [← hs] at c2
        have HS := Lib.hid hs
        have C2 := Lib.hid c2
        clear c2 hm hs
        go_wp2_with (go_at_call 41; refine (cmp_any _ _ _ _ _ C2.out.1 HU.out.1).mono ?_; rintro e w' ⟨rfl, rfl⟩)
        · have hq : kl (ks.getD m []) k = true := by rw [← HS.out, ← cmpK_lt]; assumption
          go_round
          case rel =>
            refine ⟨m + 1, j, by omega, by omega, by go_num, rfl, fun q h1 => ?_, HHI.out⟩
            rcases Nat.lt_or_ge q m with g | g
            · exact bl_trans _ _ _ (rise_at HR.out g (by rw [← HN.out]; omega)) hq
            · obtain rfl : q = m := by omega
              exact hq
          case measure => simp [intOf]; omega
        · have hge : 0 ≤ cmpK s k := by assumption
          have hq : kl (ks.getD m []) k = false := by
            rw [← HS.out, ← Bool.not_eq_true, ← cmpK_lt]
            omega
          go_round
          case rel =>
            refine ⟨i, m, by omega, by omega, rfl, rfl, HLO.out, fun q h1 h2 => ?_⟩
            rcases Nat.lt_or_ge m q with g | g
            · have h3 := rise_at HR.out g (by rw [← HN.out]; exact h2)
              rcases h4 : kl (ks.getD q []) k with _ | _
              · rfl
              · exact absurd (bl_trans _ _ _ h3 h4) (by rw [show Op.bytesLess (ks.getD m []) k = kl (ks.getD m []) k from rfl, hq]; simp)
            · obtain rfl : q = m := by omega
              exact hq
          case measure => simp [intOf]; omega
      · obtain rfl : i = j := by omega
        have hl : lbK k ks = i := lbK_of (by rw [← HN.out]; exact hj) HLO.out (fun h => HHI.out i (Nat.le_refl _) (by rw [HN.out]; exact h))
        have HL := Lib.hid hl
        clear hl
        by_cases hin : i < n
        · obtain ⟨c1, c2⟩ := HC.out i hin
          obtain ⟨s, hs⟩ : ∃ s, s = ks.getD i [] := ⟨_, rfl⟩
          rw [← hs] at c2
          have HS := Lib.hid hs
          have C2 := Lib.hid c2
          clear c2 hs
          go_wp2_with (go_at_call 41; refine (cmp_any _ _ _ _ _ C2.out.1 HU.out.1).mono ?_; rintro e w' ⟨rfl, rfl⟩)
          go_ret2
          refine ⟨?_, rfl⟩
          rw [HL.out]
          have e : hasK k ks = (cmpK s k == 0) := by
            rw [hasK, HL.out, Bool.eq_iff_iff, ← HS.out]
            simp only [decide_eq_true_eq, beq_iff_eq, cmpK_eq]
            exact ⟨fun h => h.2, fun h => ⟨by rw [← HN.out]; exact hin, h⟩⟩
          rw [e]
          rfl
        · obtain rfl : i = n := by omega
          go_wp2
          go_ret2
          refine ⟨?_, rfl⟩
          rw [HL.out]
          have e : hasK k ks = false := by
            rw [hasK, HL.out]
            simp only [decide_eq_false_iff_not]
            rw [← HN.out]
            omega
          rw [e]
          rfl
/-- The program's own search. -/
theorem srch_any (w : World) (ok ok' : Nat → Prop) (v u : Value) (ks : List Key) (k : Key) (hv : RK w ok v ks) (hu : RB w ok' u k) (hr : RiseK ks) (hsm : ks.length ≤ 1000000) :
    Calls Try.prog 24 #[v, u] w fun e w' => e = .returned (.tuple #[.int .i64 (lbK k ks : Nat), .bool (hasK k ks)]) ∧ w = w' := by
  have HV := Lib.hid hv
  have HU := Lib.hid hu
  have HR := Lib.hid hr
  clear hv hu hr
  go_enter Try.func24, Try.ntmps24
  go_wp2_with (go_at_call 40; refine (bsf_any _ _ _ _ _ _ _ HV.out HU.out HR.out hsm).mono ?_; rintro e w' ⟨rfl, rfl⟩)
  go_ret2
  exact ⟨rfl, rfl⟩
end Go.Proofs.Ytahammkjkfdmhaa
/- A page by itself: its keys, its kids. -/
namespace Go.Proofs.Ytahammkjkfdmhaa
open Go.ChangeShapes Go.WideShapes Go.ChangeAt Go.RowKit
set_option linter.unusedVariables false
set_option linter.unusedSimpArgs false
set_option maxHeartbeats 1000000
theorem take_nextG {α : Type} {l : List α} {d : α} {k : Nat} (h : k < l.length) : l.take (k + 1) = l.take k ++ [l.getD k d] := by
  rw [List.take_succ_eq_append_getElem h]
  simp [List.getD, h]
theorem rise_snoc {l : List Key} {s : Key} (h : RiseK l) (hs : ∀ m, l.length = m + 1 → kl (l.getD m []) s = true) : RiseK (l ++ [s]) := by
  rw [RiseK, List.pairwise_append]
  refine ⟨h, by simp, fun a ha b hb => ?_⟩
  simp only [List.mem_singleton] at hb
  subst hb
  obtain ⟨i, hi, rfl⟩ := List.mem_iff_getElem.1 ha
  obtain ⟨m, hm⟩ : ∃ m, l.length = m + 1 := ⟨l.length - 1, by omega⟩
  have h1 := hs m hm
  have e : l.getD i [] = l[i] := by simp [List.getD, hi]
  rcases Nat.lt_or_ge i m with g | g
  · have h2 := rise_at h g (by omega)
    rw [e] at h2
    exact bl_trans _ _ _ h2 h1
  · obtain rfl : i = m := by omega
    rw [e] at h1
    exact h1
theorem cmp_nil {s : Key} (h : keyB s = true) : cmpK [] s < 0 := by
  rw [cmpK_lt]
  rw [keyB_iff] at h
  cases s with
  | nil => simp [okK] at h
  | cons a s => rfl
/-- A call answers just whether P holds, and leaves all as it is. -/
def Ans (P : Prop) (w : World) (e : Ending) (w' : World) : Prop := ∃ b : Bool, e = .returned (.bool b) ∧ (b = true ↔ P) ∧ w = w'
theorem ans_yes {P : Prop} {w : World} (h : P) : Ans P w (.returned (.bool true)) w := ⟨true, rfl, by simp [h], rfl⟩
theorem ans_no {P : Prop} {w : World} (h : ¬ P) : Ans P w (.returned (.bool false)) w := ⟨false, rfl, by simp [h], rfl⟩
theorem ans_is {P : Prop} {w : World} {b : Bool} (h : b = true ↔ P) : Ans P w (.returned (.bool b)) w := ⟨b, rfl, h, rfl⟩
def KeysOk (ks : List Key) : Prop := ks.length ≤ 4 ∧ (∀ k ∈ ks, okK k) ∧ RiseK ks
theorem keysMay_any (w : World) (ok : Nat → Prop) (v : Value) (ks : List Key) (hv : RK w ok v ks) (hsm : ks.length ≤ maxLen) :
    Calls Try.prog 42 #[v] w (Ans (KeysOk ks) w) := by
  by_cases h0 : ks.length = 0
  · obtain ⟨rfl, ao, cap, rfl, _⟩ := keys_zero hv h0
    go_enter Try.func42, Try.ntmps42
    go_wp2
    go_rounds 1
    go_ret
    exact ans_yes (by simp [KeysOk])
  · obtain ⟨b, o, cap, f, rfl, hn, hcap, hb, _, hc⟩ := keys_of hv (by omega)
    obtain ⟨n, hnn⟩ : ∃ n, n = ks.length := ⟨_, rfl⟩
    rw [← hnn] at h0 hn hc hsm
    unfold maxLen at hcap hsm
    have HC := Lib.hid hc
    by_cases h4 : 4 < n
    · have hP : ¬ KeysOk ks := fun h => by have := h.1; omega
      have HP := Lib.hid hP
      have h4' : (4 : Int) < (n : Int) := by omega
      clear hc hv hP
      rw [← hnn]
      clear hnn
      go_enter Try.func42, Try.ntmps42
      go_wp2
      go_ret
      exact ans_no HP.out
    · have h4' : ¬ (4 : Int) < (n : Int) := by omega
      have HN := Lib.hid hnn
      rw [← hnn]
      clear hc hv hnn
      go_enter Try.func42, Try.ntmps42
      go_wp2
      go_loop [3, 11] (fun l i => ∃ k : Nat, k ≤ n ∧ i = .int .i64 (k : Int) ∧ (∀ s ∈ ks.take k, okK s) ∧ RiseK (ks.take k) ∧ RB w (fun _ => True) l (if k = 0 then [] else ks.getD (k - 1) [])) (fun _ i => n - (intOf i).toNat)
      case atStart => exact ⟨0, by omega, rfl, by simp, by simp, Rd.nil _ _, fun _ _ _ _ _ => trivial⟩
      case round =>
        obtain ⟨k, hk, rfl, hok, hr, hl⟩ := hrel
        obtain ⟨q, hq⟩ : ∃ q, q = (if k = 0 then [] else ks.getD (k - 1) []) := ⟨_, rfl⟩
        rw [← hq] at hl
        have HOK := Lib.hid hok
        have HR := Lib.hid hr
        have HL := Lib.hid hl
        have HQ := Lib.hid hq
        clear hok hr hl hq
        by_cases hlt : k < n
        · obtain ⟨c1, c2⟩ := HC.out k hlt
          obtain ⟨s, hs⟩ : ∃ s, s = ks.getD k [] := ⟨_, rfl⟩
          rw [← hs] at c2
          have HS := Lib.hid hs
          have C2 := Lib.hid c2
          clear c2 hs
          have hmem : s ∈ ks := by
            rw [HS.out]
            have : k < ks.length := by rw [← HN.out]; exact hlt
            simp only [List.getD, List.getElem?_eq_getElem this, Option.getD_some]
            exact List.getElem_mem this
          have HM := Lib.hid hmem
          clear hmem
          rcases hkb : keyB s with _ | _
          · have hnk : ¬ okK s := by rw [← keyB_iff, hkb]; simp
            have HNK := Lib.hid hnk
            clear hnk
            go_wp2_with (go_at_call 30; refine (isKey_any _ _ _ C2.out.1).mono ?_; rintro e w' ⟨rfl, rfl⟩)
            go_ret
            exact ans_no fun h => HNK.out (h.2.1 _ HM.out)
          · have HKB := Lib.hid hkb
            go_wp2_with (first | (go_at_call 30; refine (isKey_any _ _ _ C2.out.1).mono ?_; rintro e w' ⟨rfl, rfl⟩) | (go_at_call 41; refine (cmp_any _ _ _ _ _ HL.out.1 C2.out.1).mono ?_; rintro e w' ⟨rfl, rfl⟩))
            · have hge : 0 ≤ cmpK q s := by assumption
              go_ret
              refine ans_no ?_
              intro h
              rcases Nat.eq_zero_or_pos k with hk0 | hk0
              · have hq := HQ.out
                rw [if_pos hk0] at hq
                have := cmp_nil HKB.out
                rw [hq] at hge
                omega
              · have hq := HQ.out
                rw [if_neg (by omega)] at hq
                have := rise_at h.2.2 (i := k - 1) (j := k) (by omega) (by rw [← HN.out]; exact hlt)
                rw [← hq, ← HS.out, ← cmpK_lt] at this
                omega
            · have hlt' : cmpK q s < 0 := by assumption
              go_round
              case rel =>
                have hkl : k < ks.length := by rw [← HN.out]; exact hlt
                refine ⟨k + 1, by omega, by go_num, ?_, ?_, ?_⟩
                · rw [take_nextG (d := []) hkl, ← HS.out]
                  intro x hx
                  simp only [List.mem_append, List.mem_singleton] at hx
                  rcases hx with hx | rfl
                  · exact HOK.out x hx
                  · exact (keyB_iff _).1 HKB.out
                · rw [take_nextG (d := []) hkl, ← HS.out]
                  refine rise_snoc HR.out fun m hm => ?_
                  have hm' : k = m + 1 := by rw [List.length_take] at hm; omega
                  have hq := HQ.out
                  rw [if_neg (by omega)] at hq
                  have e : (ks.take k).getD m [] = ks.getD (k - 1) [] := by
                    have : m < k := by omega
                    simp only [List.getD, List.getElem?_take, if_pos this]
                    rw [show k - 1 = m by omega]
                  rw [e, ← hq, ← cmpK_lt]
                  exact hlt'
                · rw [if_neg (by omega), show k + 1 - 1 = k by omega, ← HS.out]
                  exact ⟨C2.out.1, fun _ _ _ _ _ => trivial⟩
              case measure => simp [intOf]; omega
        · obtain rfl : k = n := by omega
          go_wp2
          go_ret
          refine ans_yes ?_
          have e : ks.take k = ks := List.take_of_length_le (by rw [← HN.out]; exact Nat.le_refl _)
          have h1 := HOK.out
          have h2 := HR.out
          rw [e] at h1 h2
          exact ⟨by rw [← HN.out]; omega, h1, h2⟩
end Go.Proofs.Ytahammkjkfdmhaa
/- The kids of a page by itself. -/
namespace Go.Proofs.Ytahammkjkfdmhaa
open Go.ChangeShapes Go.WideShapes Go.ChangeAt Go.RowKit
set_option linter.unusedVariables false
set_option linter.unusedSimpArgs false
set_option maxHeartbeats 1000000
theorem ints_of {w : World} {ok : Nat → Prop} {v : Value} {l : List Int} (h : RI w ok v l) (hn : 0 < l.length) :
    ∃ b o cap, v = .slice (some ⟨b, o, none⟩) l.length cap ∧ l.length ≤ cap ∧ cap ≤ maxLen ∧ b < w.heap.size ∧ ok b ∧ ∀ i, i < l.length → w.cell? ⟨b, o + i, none⟩ = some (.int .i64 (l.getD i 0)) := by
  obtain ⟨h1, h2⟩ := h
  obtain ⟨b, o, cap, rfl, g1, g2, g3, g4⟩ := h1.pos hn (by omega)
  exact ⟨b, o, cap, rfl, g1, g2, g3, h2 _ _ _ rfl hn, fun i hi => g4 i _ (ic_at hi)⟩
theorem RI.below {w w' : World} {ok : Nat → Prop} {v : Value} {l : List Int} (h : RI w ok v l) (hb : Below w.heap.size w w') : RI w' ok v l := h.agree (Agree.below hb ok)
theorem RK.below {w w' : World} {ok : Nat → Prop} {v : Value} {l : List Key} (h : RK w ok v l) (hb : Below w.heap.size w w') : RK w' ok v l := h.agree (Agree.below hb ok)
theorem RB.below {w w' : World} {ok : Nat → Prop} {v : Value} {l : Key} (h : RB w ok v l) (hb : Below w.heap.size w w') : RB w' ok v l := h.agree (Agree.below hb ok)
theorem ints_zero {w : World} {ok : Nat → Prop} {v : Value} {l : List Int} (h : RI w ok v l) (hn : l.length = 0) : l = [] ∧ ∃ ao cap, v = .slice ao 0 cap ∧ cap ≤ maxLen := by
  obtain ⟨h1, h2⟩ := h
  rw [hn] at h1
  exact ⟨List.eq_nil_of_length_eq_zero hn, h1.zero.2⟩
/-- A call answers a number, which is not below 0 just where P holds. -/
def IdxIs (P : Prop) (w : World) (e : Ending) (w' : World) : Prop := ∃ i : Int, e = .returned (.int .i64 i) ∧ (0 ≤ i ↔ P) ∧ w = w'
theorem IdxIs.mk {P : Prop} {w : World} (i : Int) (h : 0 ≤ i ↔ P) : IdxIs P w (.returned (.int .i64 i)) w := ⟨i, rfl, h, rfl⟩
theorem noRow_any (w : World) (c : Int) : Calls Try.prog 55 #[.int .i64 c] w fun e w' => e = .returned (.bool (decide (c < 0))) ∧ w = w' := by
  go_enter Try.func55, Try.ntmps55
  go_wp2
  go_ret
  exact ⟨rfl, rfl⟩
theorem noPage_any (w : World) (c n : Int) (B : Nat) (hB : w.cell? ⟨B, 0, none⟩ = some (.int .i64 n)) : Calls Try.prog 57 #[.int .i64 c, .pointer (some ⟨B, 0, none⟩)] w fun e w' => e = .returned (.bool (decide (c < 0) || decide (n ≤ c))) ∧ w = w' := by
  by_cases h : c < 0
  all_goals (
    go_enter Try.func57, Try.ntmps57
    go_wp2
    go_ret
    refine ⟨rb ?_, rfl⟩
    simp [h]
    try omega)
/-- The first kid of which a question is true, or none. -/
theorem idxA_any (w : World) (ok : Nat → Prop) (v : Value) (l : List Int) (hv : RI w ok v l) :
    Calls Try.prog 64 #[v, .func (.func 55) #[] #[]] w (IdxIs (∃ c ∈ l, c < 0) w) := by
  by_cases h0 : l.length = 0
  · obtain ⟨rfl, ao, cap, rfl, _⟩ := ints_zero hv h0
    go_enter Try.func64, Try.ntmps64
    go_wp2
    go_rounds 1
    go_ret
    exact IdxIs.mk (-1) (by simp)
  · obtain ⟨b, o, cap, rfl, hn, hcap, hb, _, hc⟩ := ints_of hv (by omega)
    obtain ⟨n, hnn⟩ : ∃ n, n = l.length := ⟨_, rfl⟩
    rw [← hnn] at h0 hn hc
    rw [← hnn]
    unfold maxLen at hcap
    have HC := Lib.hid hc
    have HN := Lib.hid hnn
    clear hc hv hnn
    go_enter Try.func64, Try.ntmps64
    go_wp2
    go_loop [8] (fun i => ∃ k : Nat, k ≤ n ∧ i = .int .i64 (k : Int) ∧ ∀ c ∈ l.take k, ¬ (c < 0)) (fun i => n - (intOf i).toNat)
    case atStart => exact ⟨0, by omega, rfl, by simp⟩
    case round =>
      obtain ⟨k, hk, rfl, hno⟩ := hrel
      have HNO := Lib.hid hno
      clear hno
      by_cases hlt : k < n
      · have c1 := HC.out k hlt
        obtain ⟨s, hs⟩ : ∃ s, s = l.getD k 0 := ⟨_, rfl⟩
        rw [← hs] at c1
        have HS := Lib.hid hs
        clear hs
        have hkl : k < l.length := by rw [← HN.out]; exact hlt
        have HK := Lib.hid hkl
        clear hkl
        have cc := noRow_any w s
        obtain ⟨q, hq⟩ : ∃ q : Bool, q = (decide (s < 0)) := ⟨_, rfl⟩
        rw [← hq] at cc
        have CC := Lib.hid cc
        have HQ := Lib.hid hq
        clear cc hq
        cases q with
        | true =>
          go_wp2_with (go_at_call 55; refine CC.out.mono ?_; rintro e w' ⟨rfl, rfl⟩)
          go_ret
          refine IdxIs.mk _ ⟨fun _ => ⟨s, ?_, ?_⟩, fun _ => by omega⟩
          · rw [HS.out]
            simp only [List.getD, List.getElem?_eq_getElem HK.out, Option.getD_some]
            exact List.getElem_mem HK.out
          · have := HQ.out
            simp at this
            exact this
        | false =>
          go_wp2_with (go_at_call 55; refine CC.out.mono ?_; rintro e w' ⟨rfl, rfl⟩)
          go_round
          case rel =>
            refine ⟨k + 1, by omega, by go_num, ?_⟩
            rw [take_nextG (d := 0) HK.out, ← HS.out]
            intro x hx
            simp only [List.mem_append, List.mem_singleton] at hx
            rcases hx with hx | rfl
            · have := HNO.out x hx
              omega
            · have := HQ.out
              simp at this
              omega
          case measure => simp [intOf]; omega
      · obtain rfl : k = n := by omega
        go_wp2
        go_ret
        have e : l.take k = l := List.take_of_length_le (by rw [← HN.out]; exact Nat.le_refl _)
        have h1 := HNO.out
        rw [e] at h1
        exact IdxIs.mk (-1) ⟨fun h => absurd h (by omega), fun ⟨c, hc, hp⟩ => by have := h1 c hc; omega⟩
theorem conA_any (w : World) (ok : Nat → Prop) (v : Value) (l : List Int) (hv : RI w ok v l) :
    Calls Try.prog 56 #[v, .func (.func 55) #[] #[]] w (Ans (∃ c ∈ l, c < 0) w) := by
  have HV := Lib.hid hv
  clear hv
  go_enter Try.func56, Try.ntmps56
  go_wp2_with (go_at_call 64; refine (idxA_any w _ _ _ HV.out).mono ?_; rintro e w' ⟨i, rfl, hi, rfl⟩; have HI := Lib.hid hi; clear hi)
  go_ret
  exact ans_is (by rw [← HI.out]; simp)
/-- The first kid of which a question is true, or none. -/
theorem idxB_any (w : World) (ok : Nat → Prop) (v : Value) (l : List Int) (n0 : Int) (B : Nat) (hB : w.cell? ⟨B, 0, none⟩ = some (.int .i64 n0)) (hv : RI w ok v l) :
    Calls Try.prog 64 #[v, .func (.func 57) #[] #[.pointer (some ⟨B, 0, none⟩)]] w (IdxIs (∃ c ∈ l, c < 0 ∨ n0 ≤ c) w) := by
  by_cases h0 : l.length = 0
  · obtain ⟨rfl, ao, cap, rfl, _⟩ := ints_zero hv h0
    go_enter Try.func64, Try.ntmps64
    go_wp2
    go_rounds 1
    go_ret
    exact IdxIs.mk (-1) (by simp)
  · obtain ⟨b, o, cap, rfl, hn, hcap, hb, _, hc⟩ := ints_of hv (by omega)
    obtain ⟨n, hnn⟩ : ∃ n, n = l.length := ⟨_, rfl⟩
    rw [← hnn] at h0 hn hc
    rw [← hnn]
    unfold maxLen at hcap
    have HC := Lib.hid hc
    have HN := Lib.hid hnn
    clear hc hv hnn
    go_enter Try.func64, Try.ntmps64
    go_wp2
    go_loop [8] (fun i => ∃ k : Nat, k ≤ n ∧ i = .int .i64 (k : Int) ∧ ∀ c ∈ l.take k, ¬ (c < 0 ∨ n0 ≤ c)) (fun i => n - (intOf i).toNat)
    case atStart => exact ⟨0, by omega, rfl, by simp⟩
    case round =>
      obtain ⟨k, hk, rfl, hno⟩ := hrel
      have HNO := Lib.hid hno
      clear hno
      by_cases hlt : k < n
      · have c1 := HC.out k hlt
        obtain ⟨s, hs⟩ : ∃ s, s = l.getD k 0 := ⟨_, rfl⟩
        rw [← hs] at c1
        have HS := Lib.hid hs
        clear hs
        have hkl : k < l.length := by rw [← HN.out]; exact hlt
        have HK := Lib.hid hkl
        clear hkl
        have cc := noPage_any w s n0 B hB
        obtain ⟨q, hq⟩ : ∃ q : Bool, q = (decide (s < 0) || decide (n0 ≤ s)) := ⟨_, rfl⟩
        rw [← hq] at cc
        have CC := Lib.hid cc
        have HQ := Lib.hid hq
        clear cc hq
        cases q with
        | true =>
          go_wp2_with (go_at_call 57; refine CC.out.mono ?_; rintro e w' ⟨rfl, rfl⟩)
          go_ret
          refine IdxIs.mk _ ⟨fun _ => ⟨s, ?_, ?_⟩, fun _ => by omega⟩
          · rw [HS.out]
            simp only [List.getD, List.getElem?_eq_getElem HK.out, Option.getD_some]
            exact List.getElem_mem HK.out
          · have := HQ.out
            simp at this
            exact this
        | false =>
          go_wp2_with (go_at_call 57; refine CC.out.mono ?_; rintro e w' ⟨rfl, rfl⟩)
          go_round
          case rel =>
            refine ⟨k + 1, by omega, by go_num, ?_⟩
            rw [take_nextG (d := 0) HK.out, ← HS.out]
            intro x hx
            simp only [List.mem_append, List.mem_singleton] at hx
            rcases hx with hx | rfl
            · have := HNO.out x hx
              omega
            · have := HQ.out
              simp at this
              omega
          case measure => simp [intOf]; omega
      · obtain rfl : k = n := by omega
        go_wp2
        go_ret
        have e : l.take k = l := List.take_of_length_le (by rw [← HN.out]; exact Nat.le_refl _)
        have h1 := HNO.out
        rw [e] at h1
        exact IdxIs.mk (-1) ⟨fun h => absurd h (by omega), fun ⟨c, hc, hp⟩ => by have := h1 c hc; omega⟩
theorem conB_any (w : World) (ok : Nat → Prop) (v : Value) (l : List Int) (n0 : Int) (B : Nat) (hB : w.cell? ⟨B, 0, none⟩ = some (.int .i64 n0)) (hv : RI w ok v l) :
    Calls Try.prog 56 #[v, .func (.func 57) #[] #[.pointer (some ⟨B, 0, none⟩)]] w (Ans (∃ c ∈ l, c < 0 ∨ n0 ≤ c) w) := by
  have HV := Lib.hid hv
  clear hv
  go_enter Try.func56, Try.ntmps56
  go_wp2_with (go_at_call 64; refine (idxB_any w _ _ _ n0 B hB HV.out).mono ?_; rintro e w' ⟨i, rfl, hi, rfl⟩; have HI := Lib.hid hi; clear hi)
  go_ret
  exact ans_is (by rw [← HI.out]; simp)
def KidsOk (leaf : Bool) (ks : List Key) (ds : List Int) (n : Int) : Prop :=
  ds.length = (if leaf then ks.length else ks.length + 1) ∧ (leaf = false → 1 ≤ ks.length) ∧ ∀ c ∈ ds, 0 ≤ c ∧ (leaf = false → c < n)
/-- The same, and what was there stands. -/
def AnsB (P : Prop) (w : World) (e : Ending) (w' : World) : Prop := ∃ b : Bool, e = .returned (.bool b) ∧ (b = true ↔ P) ∧ Below w.heap.size w w'
theorem ansb {P : Prop} {w w' : World} {b : Bool} (h : b = true ↔ P) (hb : Below w.heap.size w w') : AnsB P w (.returned (.bool b)) w' := ⟨b, rfl, h, hb⟩
theorem kidsMay_any (w : World) (ok : Nat → Prop) (leaf : Bool) (k d h : Value) (nx n : Int) (ks : List Key) (ds : List Int) (hk : RK w ok k ks) (hd : RI w ok d ds) (hkl : ks.length ≤ 1000000) (hdl : ds.length ≤ 4611686018427387904) :
    Calls Try.prog 43 #[.agg #[.bool leaf, k, d, h, .int .i64 nx], .int .i64 n] w (AnsB (KidsOk leaf ks ds n) w) := by
  obtain ⟨vs, hk1, _⟩ := hk
  obtain ⟨_, ao, cap, rfl, _, _, _, _⟩ := hk1
  have hd1 := hd.1
  obtain ⟨_, ao', cap', rfl, _, _, _, _⟩ := hd1
  have HD := Lib.hid hd
  clear hd
  obtain ⟨p, hp⟩ : ∃ p, p = ks.length := ⟨_, rfl⟩
  obtain ⟨q, hq⟩ : ∃ q, q = ds.length := ⟨_, rfl⟩
  rw [← hp] at hkl ⊢
  rw [← hq] at hdl HD ⊢
  have HP := Lib.hid hp
  have HQ := Lib.hid hq
  clear hp hq
  cases leaf with
  | true =>
    by_cases hqp : q = p
    · subst hqp
      go_enter Try.func43, Try.ntmps43
      go_wp2_with (go_at_call 56; refine (conA_any _ _ _ _ (HD.out.below (by go_grown))).mono ?_; rintro e w' ⟨b, rfl, hb, rfl⟩; have HB := Lib.hid hb; clear hb)
      go_ret
      refine ansb ?_ (by go_grown)
      have hb := HB.out
      cases b with
      | true =>
        simp only [true_iff] at hb
        obtain ⟨c, hc, hlt⟩ := hb
        simp only [Bool.not_true, Bool.false_eq_true, false_iff]
        intro h
        have := (h.2.2 c hc).1
        omega
      | false =>
        simp only [Bool.false_eq_true, false_iff] at hb
        simp only [Bool.not_false, true_iff]
        exact ⟨by rw [← HQ.out, ← HP.out]; rfl, by simp, fun c hc => ⟨Int.not_lt.1 fun g => hb ⟨c, hc, g⟩, by simp⟩⟩
    · have hne : decide ((q : Int) = (p : Int)) = false := by simp; omega
      go_enter Try.func43, Try.ntmps43
      go_wp2
      go_ret
      refine ansb ?_ (by go_grown)
      simp only [Bool.false_eq_true, false_iff]
      intro h
      have := h.1
      rw [← HQ.out, ← HP.out] at this
      simp at this
      omega
  | false =>
    by_cases hp0 : p = 0
    · subst hp0
      go_enter Try.func43, Try.ntmps43
      go_wp2
      go_ret
      refine ansb ?_ (by go_grown)
      simp only [Bool.false_eq_true, false_iff]
      intro h
      have := h.2.1 rfl
      rw [← HP.out] at this
      omega
    · have hpp : 0 < p := by omega
      by_cases hqp : q = p + 1
      · subst hqp
        go_enter Try.func43, Try.ntmps43
        go_wp2_with (go_at_call 56; refine (conB_any _ _ _ _ n (w.heap.size + 1) (by simp) (HD.out.below (by go_grown))).mono ?_; rintro e w' ⟨b, rfl, hb, rfl⟩; have HB := Lib.hid hb; clear hb)
        go_ret
        refine ansb ?_ (by go_grown)
        have hb := HB.out
        cases b with
        | true =>
          simp only [true_iff] at hb
          obtain ⟨c, hc, hlt⟩ := hb
          simp only [Bool.not_true, Bool.false_eq_true, false_iff]
          intro h
          have := h.2.2 c hc
          have h2 := this.2 rfl
          omega
        | false =>
          simp only [Bool.false_eq_true, false_iff] at hb
          simp only [Bool.not_false, true_iff]
          exact ⟨by rw [← HQ.out, ← HP.out]; rfl, fun _ => by rw [← HP.out]; omega, fun c hc => ⟨Int.not_lt.1 fun g => hb ⟨c, hc, .inl g⟩, fun _ => Int.not_le.1 fun g => hb ⟨c, hc, .inr g⟩⟩⟩
      · have hne : decide ((q : Int) = (p : Int) + 1) = false := by simp; omega
        go_enter Try.func43, Try.ntmps43
        go_wp2
        go_ret
        refine ansb ?_ (by go_grown)
        simp only [Bool.false_eq_true, false_iff]
        intro h
        have := h.1
        rw [← HQ.out, ← HP.out] at this
        simp at this
        omega
end Go.Proofs.Ytahammkjkfdmhaa
