/-
  Texts of one layer, one behind the other, each with its own sentence; conditions: those that each law states.
-/
import Derived.Test.YtjbfooaembpdfaaGreatDoorZD6
import Derived.Test.YtjbfooaembpdfaaGreatDoorZJ5
set_option linter.unusedSimpArgs false
set_option linter.unusedVariables false

/-
  A pager on a store that counts, and a transaction over it: what the calls answer, and what they leave, in the words of the store; over this seat's translation; conditions: those that each law states.
-/
namespace Go.Proofs.YtjbfooaembpdfaaGreatDoor.J10
open Go.RowKit Go.Maps
/-- The variables that are listed. -/
structure Env (w : World) : Prop where
  tab : M6.Tab w
  pl : R8.Pl w
  hd : Hd w
theorem Env.kp {F : Nat → Prop} {w w' : World} (h : Env w) (k : D5.Kp F w w') (hF : ∀ i, F i → 5 ≤ i) : Env w' := ⟨tab_kp h.tab k hF, pl_kp h.pl k hF, hd_kp h.hd k hF⟩
theorem PgV.ge {w : World} {base : Nat} {k : Bk} {g : Pg} (h : PgV w base k g) : ∀ i, footG k i → base ≤ i := by
  intro i hi
  rcases hi with rfl | hi | rfl | rfl
  · exact h.bp
  · exact pdv_ge h.disk i hi
  · exact h.bt
  · exact h.bmb
theorem TxV.ge {w : World} {base n : Nat} {k : Bk} {y : Bx} {g : Pg} {T : Tr} (h : TxV w base k y n g T) : ∀ i, footX k y i → base ≤ i := by
  intro i hi
  rcases hi with hi | rfl | rfl | rfl | rfl
  · exact h.pg.ge i hi
  · exact h.bx
  · exact h.bt
  · exact h.bmb
  · exact h.bbm
/-- The store that a pager tells. -/
structure Stands (g : Pg) (V : Pgs) (N : Nat) : Prop where
  sto : Sto g.d.secs g.r.cs g.t g.m V
  roots : Roots g.d.secs g.r g.wh
  off : g.d.off = false
  pend : g.d.pend = []
  ok : g.d.Ok N
  dead : g.dead = false
  re : g.r.e < 1000000
theorem Stands.fit {g : Pg} {V : Pgs} {N : Nat} (h : Stands g V N) : R8.Fit g.r := by
  have hl := h.sto.len
  have hn := h.sto.n2
  have he := h.re
  have hz : g.r = R8.zeroR ∨ R8.Good g.r := by
    rcases h.roots with ⟨_, e, _⟩ | ⟨_, e, _⟩ | ⟨_, e, _⟩
    · exact .inl e
    · exact .inr e
    · exact .inr e
  refine ⟨hl, by omega, ?_, fun i hi => ?_⟩
  · rcases hz with e | e
    · rw [e]; exact ⟨by decide, by decide⟩
    · have h1 := e.1.2.1; have h2 := e.1.2.2.1; constructor <;> omega
  · have h1 := h.sto.pos i hi
    have h2 := h.sto.okAt hi
    rcases h2 with h2 | ⟨_, h2, _⟩
    · rw [h2]; constructor <;> omega
    · constructor <;> omega
theorem Stands.busy {g : Pg} {V : Pgs} {N : Nat} (h : Stands g V N) (b : Bool) : Stands { g with busy := b } V N := ⟨h.sto, h.roots, h.off, h.pend, h.ok, h.dead, h.re⟩
/-- A transaction over it. -/
structure Over (g : Pg) (T : Tr) (V V' : Pgs) (N : Nat) : Prop where
  st : Stands g V N
  tx : Txi g.d.secs.length g.t g.m V T.t T.m T.X V'
theorem Over.new {g : Pg} {V : Pgs} {N : Nat} (h : Stands g V N) : Over g ⟨g.t, g.m, fun _ => none⟩ V V N := ⟨h, Txi.new h.sto⟩
theorem Over.ml {g : Pg} {T : Tr} {V V' : Pgs} {N : Nat} (h : Over g T V V' N) : T.m.length ≤ 1024 := by rw [h.tx.len]; have := h.st.sto.n2; omega
/-- Which pages a transaction has. -/
theorem Over.has {g : Pg} {T : Tr} {V V' : Pgs} {N : Nat} (h : Over g T V V' N) (p : Int) : T9.getF T.t p = 0 ↔ V' p = none := by
  by_cases hp : T9.IsPage p
  · obtain ⟨j, hj, rfl⟩ := isPage_cases hp
    rw [T9.getF_nat _ _ hj]
    rcases h.tx.page j hj with ⟨s, d, _, e1, e2, _, _, hk⟩ | ⟨_, e1, e2⟩ | ⟨_, e1, e2, e3⟩
    · obtain ⟨kd, b, hv, _⟩ := hk
      rw [hv]
      constructor
      · intro e; omega
      · intro e; cases e
    · exact ⟨fun _ => e2, fun _ => e1⟩
    · rw [e3]
      constructor
      · intro e; exact absurd e e1
      · intro e
        rcases h.st.sto.page j hj with ⟨q1, _⟩ | ⟨_, kd, b, hv, _⟩
        · rw [e2]; exact q1
        · rw [hv] at e; cases e
  · constructor
    · intro _; exact h.tx.outV p hp
    · intro _; unfold T9.getF; rw [if_neg hp]
theorem Over.isPage {g : Pg} {T : Tr} {V V' : Pgs} {N : Nat} (h : Over g T V V' N) {p : Int} (hv : V' p ≠ none) : T9.IsPage p := by
  by_cases hp : T9.IsPage p
  · exact hp
  · exact absurd (h.tx.outV p hp) hv
theorem Over.noX {g : Pg} {T : Tr} {V V' : Pgs} {N : Nat} (h : Over g T V V' N) {j : Nat} (hj : j < 960) (h0 : T.t.P.getD j 0 = 0) : T.X ((j : Int) + 1) = none := by
  rcases h.tx.page j hj with ⟨s, d, _, e1, e2, _⟩ | ⟨e, _⟩ | ⟨e, _⟩
  · omega
  · exact e
  · exact e
section
variable {w : World} {base n N : Nat} {k : Bk} {y : Bx} {g : Pg} {T : Tr} {V V' : Pgs}
theorem low_page' {P : List Nat} (hl : P.length = 960) {n : Nat} (hn : n ≤ 960) (h : ∃ j, j < n ∧ P.getD j 0 = 0) : ∃ j, j < n ∧ P.getD j 0 = 0 ∧ T9.lowN P = j + 1 ∧ T9.lowE P = 0 ∧ ∀ k, k < j → P.getD k 0 ≠ 0 := by
  obtain ⟨j, hj, h0⟩ := h
  have hex : ∃ i, i ≤ j ∧ P.getD i 0 = 0 ∧ ∀ k, k < i → P.getD k 0 ≠ 0 := by
    induction j using Nat.strongRecOn with
    | ind j ih =>
      by_cases hc : ∃ k, k < j ∧ P.getD k 0 = 0
      · obtain ⟨k, hk, h1⟩ := hc
        obtain ⟨i, hi, h2⟩ := ih k hk (by omega) h1
        exact ⟨i, by omega, h2⟩
      · exact ⟨j, Nat.le_refl _, h0, fun k hk e => hc ⟨k, hk, e⟩⟩
  obtain ⟨i, hi, h1, h2⟩ := hex
  obtain ⟨a, b⟩ := T9.low_told (by rw [hl]; omega) h1 h2
  exact ⟨i, by omega, h1, a, b, h2⟩
/-- What a change of a transaction answers and leaves. -/
def Chg (w : World) (base : Nat) (k : Bk) (y : Bx) (n : Nat) (g : Pg) (V : Pgs) (N : Nat) (V2 : Pgs) (w' : World) : Prop := ∃ n' T', n' ≤ n + 1 ∧ TxV w' base k y n' g T' ∧ Over g T' V V2 N ∧ D5.Kp (footT y) w w'
theorem ov_new (h : TxV w base k y n g T) (o : Over g T V V' N) (hT : M6.Tab w) (hn : n < 1000000) {kd : Nat} {b : ByteArray} (h1 : 1 ≤ kd) (h2 : kd ≤ 254) (h3 : b.size ≤ 240) :
    Calls Tryz.prog 22 #[.pointer (some ⟨y.x, 0, none⟩), .int .i64 (kd : Nat), .string b] w fun e w' =>
      (∃ p : Int, e = .returned (.tuple #[.int .i64 p, .int .i64 0]) ∧ V' p = none ∧ 1 ≤ p ∧ p ≤ 100 ∧ Chg w base k y n g V N (upd V' p (kd, b)) w' ∧ M6.nextF T.m 0 false < T.m.length ∧ ∀ q : Int, 1 ≤ q → q < p → V' q ≠ none) ∨
      (e = .returned (.tuple #[.int .i64 0, .int .i64 11]) ∧ Chg w base k y n g V N V' w' ∧ ¬ M6.nextF T.m 0 false < T.m.length) := by
  have hfit := o.tx.fit
  obtain ⟨j, hj, h0, hL, hE, hlow⟩ := low_page' hfit.1 (n := g.d.secs.length) (by have := o.st.sto.n2; omega) (o.tx.room o.st.sto)
  have hn2 := o.st.sto.n2
  have hj9 : j < 960 := by omega
  have hX := o.noX hj9 h0
  have hs := sealC_ok (k := (kd : Int)) (by omega) (by omega) h3
  refine (new_any h o.st.dead hn hT o.ml hs hj9 hL hE hX).mono fun e w' hh => ?_
  rcases hh with ⟨hk, e1, e2, e3⟩ | ⟨hk, e1, e2, e3⟩
  · refine .inl ⟨_, e1, ?_, by omega, by omega, ⟨n + 1, _, Nat.le_refl _, e2, ⟨o.st, ?_⟩, e3⟩, hk, fun q q1 q2 e => ?_⟩
    · have h4 := (o.has ((j : Int) + 1)).1 (by rw [T9.getF_nat _ _ hj9]; exact h0)
      exact h4
    · rw [sealT_ok h1 h2 h3]
      exact o.tx.putNew o.st.sto hj9 hX hk ⟨kd, b, rfl, h1, h2, h3, rfl⟩
    · have h4 := (o.has q).2 e
      obtain ⟨i, rfl⟩ : ∃ i : Nat, q = (i : Int) + 1 := ⟨(q - 1).toNat, by omega⟩
      rw [T9.getF_nat _ _ (by omega)] at h4
      exact hlow i (by omega) h4
  · exact .inr ⟨e1, ⟨n, T, Nat.le_succ _, e2, o, e3⟩, hk⟩
theorem tab_gb {w W : World} (h : M6.Tab w) (g : w.grownBy W none) : M6.Tab W := h.keep0 g
theorem page64 {p : Int} (hp : T9.IsPage p) : In64 p := by have h1 := hp.1; have h2 := hp.2; constructor <;> omega
theorem ov_write (h : TxV w base k y n g T) (o : Over g T V V' N) (hT : M6.Tab w) (hn : n < 1000000) (p : Int) {kd : Nat} {b : ByteArray} (h1 : 1 ≤ kd) (h2 : kd ≤ 254) (h3 : b.size ≤ 240) :
    Calls Tryz.prog 23 #[.pointer (some ⟨y.x, 0, none⟩), .int .i64 p, .int .i64 (kd : Nat), .string b] w fun e w' =>
      (V' p ≠ none ∧ e = .returned (.int .i64 0) ∧ Chg w base k y n g V N (upd V' p (kd, b)) w') ∨
      (V' p ≠ none ∧ e = .returned (.int .i64 11) ∧ Chg w base k y n g V N V' w' ∧ ¬ M6.nextF T.m 0 false < T.m.length) ∨
      (V' p = none ∧ e = .returned (.int .i64 13) ∧ Chg w base k y n g V N V' w') := by
  by_cases hv : V' p = none
  · refine (write_none h o.st.dead ((o.has p).2 hv) _ _).mono fun e w' hh => ?_
    exact .inr (.inr ⟨hv, hh.1, n, T, Nat.le_succ _, hh.2.1, o, hh.2.2⟩)
  · have hpg := o.isPage hv
    have hp := page64 hpg
    have h0 : T9.getF T.t p ≠ 0 := fun e => hv ((o.has p).1 e)
    have hs := sealC_ok (k := (kd : Int)) (by omega) (by omega) h3
    obtain ⟨j, hj, rfl⟩ := isPage_cases hpg
    cases hX : T.X ((j : Int) + 1) with
    | some x =>
      obtain ⟨s, d0⟩ := x
      refine (write_put h o.st.dead h0 hs (fun W gW => put_old (h.keep0 gW) hn hp hX _)).mono fun e w' hh => ?_
      refine .inl ⟨hv, hh.1, n + 1, _, Nat.le_refl _, hh.2.1, ⟨o.st, ?_⟩, hh.2.2⟩
      rw [sealT_ok h1 h2 h3]
      exact o.tx.putOld hj hX ⟨kd, b, rfl, h1, h2, h3, rfl⟩
    | none =>
      by_cases hk : M6.nextF T.m 0 false < T.m.length
      · refine (write_put h o.st.dead h0 hs (fun W gW => put_new (h.keep0 gW) hn hp hX _ (hT.keep0 gW) o.ml hk)).mono fun e w' hh => ?_
        refine .inl ⟨hv, hh.1, n + 1, _, Nat.le_refl _, hh.2.1, ⟨o.st, ?_⟩, hh.2.2⟩
        rw [sealT_ok h1 h2 h3]
        exact o.tx.putNew o.st.sto hj hX hk ⟨kd, b, rfl, h1, h2, h3, rfl⟩
      · refine (write_put h o.st.dead h0 hs (fun W gW => put_full (h.keep0 gW) hp hX _ (hT.keep0 gW) o.ml hk)).mono fun e w' hh => ?_
        exact .inr (.inl ⟨hv, hh.1, ⟨n, T, Nat.le_succ _, hh.2.1, o, hh.2.2⟩, hk⟩)
theorem ov_drop (h : TxV w base k y n g T) (o : Over g T V V' N) (p : Int) :
    Calls Tryz.prog 24 #[.pointer (some ⟨y.x, 0, none⟩), .int .i64 p] w fun e w' =>
      (V' p ≠ none ∧ e = .returned (.int .i64 0) ∧ Chg w base k y n g V N (del V' p) w') ∨
      (V' p = none ∧ e = .returned (.int .i64 13) ∧ Chg w base k y n g V N V' w') := by
  by_cases hv : V' p = none
  · refine (drop_none h o.st.dead ((o.has p).2 hv)).mono fun e w' hh => ?_
    exact .inr ⟨hv, hh.1, n, T, Nat.le_succ _, hh.2.1, o, hh.2.2⟩
  · have hpg := o.isPage hv
    have hp := page64 hpg
    have h0 : T9.getF T.t p ≠ 0 := fun e => hv ((o.has p).1 e)
    obtain ⟨j, hj, rfl⟩ := isPage_cases hpg
    cases hX : T.X ((j : Int) + 1) with
    | some x =>
      obtain ⟨s, d0⟩ := x
      obtain ⟨_, q2, q3⟩ := o.tx.dropNew o.st.sto hj hX
      refine (drop_new h o.st.dead hp h0 hX o.ml q2).mono fun e w' hh => ?_
      exact .inl ⟨hv, hh.1, n, _, Nat.le_succ _, hh.2.1, ⟨o.st, q3⟩, hh.2.2⟩
    | none =>
      have h0' : T.t.P.getD j 0 ≠ 0 := by rw [T9.getF_nat _ _ hj] at h0; exact h0
      obtain ⟨q2, q3⟩ := o.tx.dropOld hj hX h0'
      refine (drop_old h o.st.dead hp h0 hX q2).mono fun e w' hh => ?_
      exact .inl ⟨hv, hh.1, n, _, Nat.le_succ _, hh.2.1, ⟨o.st, q3⟩, hh.2.2⟩
end
end Go.Proofs.YtjbfooaembpdfaaGreatDoor.J10

/-
  Commit in the words of the store: what it answers, and what counts then; over this seat's translation; conditions: those that each law states.
-/
namespace Go.Proofs.YtjbfooaembpdfaaGreatDoor.J10
open Go.RowKit Go.Maps
theorem Wrs.length_le {n : Nat} {m : List Bool} {ws : List (Int × ByteArray)} (h : Wrs n m ws) : ws.length ≤ n := by
  have hsub : (ws.map fun x => x.1.toNat).Nodup := by
    have hnd := h.nd
    unfold List.Nodup at hnd ⊢
    rw [List.pairwise_map] at hnd ⊢
    refine List.Pairwise.imp_of_mem ?_ hnd
    intro a b ha hb hab e
    obtain ⟨c, e1, _⟩ := h.each a ha
    obtain ⟨d, e2, _⟩ := h.each b hb
    apply hab
    have e' : a.1.toNat = b.1.toNat := e
    omega
  have hle := List.Nodup.length_le_of_subset (l₂ := List.range n) hsub (by
    intro x hx
    obtain ⟨y, hy, rfl⟩ := List.mem_map.1 hx
    obtain ⟨c, e1, _, h3, _⟩ := h.each y hy
    rw [List.mem_range, e1]
    simpa using h3)
  simpa using hle
theorem clean_same {g : Pg} {T : Tr} {V V' : Pgs} {N : Nat} (o : Over g T V V' N) (hD : T9.dirtyF T.t.D = []) : V' = V := by
  have hall : ∀ i, i < 8 → T.t.D.getD i false = false := by
    intro i hi
    cases e : T.t.D.getD i false with
    | false => rfl
    | true =>
      have : i ∈ T9.dirtyF T.t.D := List.mem_filter.2 ⟨List.mem_range.2 hi, e⟩
      rw [hD] at this; cases this
  funext p
  by_cases hp : T9.IsPage p
  · obtain ⟨j, hj, rfl⟩ := isPage_cases hp
    obtain ⟨e1, e2⟩ := o.tx.clean (j / 120) (by omega) (hall _ (by omega)) j hj rfl
    rcases o.tx.page j hj with ⟨s, d, e3, _⟩ | ⟨_, e3, e4⟩ | ⟨_, _, _, e4⟩
    · rw [e2] at e3; cases e3
    · rw [e4]
      rcases o.st.sto.page j hj with ⟨_, q2⟩ | ⟨q1, _⟩
      · exact q2.symm
      · rw [e1] at e3; exact absurd e3 q1
    · exact e4
  · rw [o.tx.outV p hp, o.st.sto.outV p hp]
/-- Where nothing comes of what waits, what stood there stands. -/
theorem boot_nil (s : D5.St) : (D5.bootS s []).secs = s.secs := by
  have h : ∀ n k, (D5.cameF [] n).getD k false = false := by
    intro n k
    unfold D5.cameF
    rw [List.getD_eq_getElem?_getD, List.getElem?_map]
    by_cases e : k < n
    · rw [List.getElem?_range e]; simp [D5.wentB]
    · rw [List.getElem?_eq_none (by simp; omega)]; simp
  have e : ∀ n m, D5.cameTo (D5.cameF [] n) m = [] := by
    intro n m
    unfold D5.cameTo
    rw [List.filter_eq_nil_iff]
    intro k _
    rw [h]
    simp
  show D5.afterF s.secs s.pend _ _ _ = s.secs
  unfold D5.afterF
  rw [e]
  rfl
theorem crash_none {s0 s1 : D5.St} {r : R8.Rt} {wh : Int} {t : T9.TB} {m : List Bool} {V : Pgs} {T : T9.TB} {M : List Bool} {X V' : Pgs} {s : PlanS} {rb : ByteArray} {N : Nat} (hs : Sto s0.secs r.cs t m V) (hr : Roots s0.secs r wh)
    (h : Txi s0.secs.length t m V T M X V') (hp : PlanI s0.secs.length T.P r.cs M (T9.dirtyF T.D) s) (hc : Crashed s0 s1 (wrF T.P X ++ s.ws) (toN wh) rb) (_ : s1.Ok N) : Opens (D5.bootS s1 []).secs V := by
  have hw := h.wrs hs hp
  have hlaid := D5.laidF_length (wrF T.P X ++ s.ws) s0.secs
  have hold := hs.keeps hw
  have hoff : ∀ k, k < 2 → secAt (D5.laidF (wrF T.P X ++ s.ws) s0.secs) k = secAt s0.secs k := by
    intro k hk
    refine laid_off k _ _ fun x hx => ?_
    obtain ⟨c, e, h2, _⟩ := hw.each x hx
    exact ⟨c, e, by omega⟩
  have hr1 : Roots (D5.laidF (wrF T.P X ++ s.ws) s0.secs) r wh := hr.frame hlaid (hoff 0 (by omega)) (hoff 1 (by omega))
  rw [boot_nil]
  rcases hc with ⟨h1, _⟩ | ⟨h1, _⟩
  · rw [h1]; exact ⟨r, wh, t, m, hr.picks, hs⟩
  · rw [h1]; exact ⟨r, wh, t, m, hr1.picks, hold⟩
/-- What a Commit answers and leaves. -/
def ComO (w : World) (base : Nat) (k : Bk) (y : Bx) (g : Pg) (T : Tr) (V V' : Pgs) (N : Nat) (e : Ending) (w' : World) : Prop :=
  ∃ c k' g', e = .returned (.int .i64 c) ∧ k'.p = k.p ∧ k'.dp = k.dp ∧ PgV w' base k' g' ∧ g'.busy = false ∧ OverB w' y.x ∧ (∀ i, footG k' i → footX k y i ∨ w.heap.size ≤ i) ∧ D5.Kp (footX k y) w w' ∧
    ((c = 0 ∧ Stands g' V' (N + 110) ∧ ((g'.r.e = g.r.e ∧ V' = V) ∨ g'.r.e = g.r.e + 1) ∧ (T9.dirtyF T.t.D = [] ∨ ¬ cutAt g.d 2) ∧ (g.d.armed = false → g'.d.armed = false) ∧ g'.d.secs.length = g.d.secs.length) ∨
     (c = 11 ∧ Stands g' V N ∧ g'.r.e = g.r.e ∧ planTo T.t.P ⟨g.r.cs, T.m, []⟩ (T9.dirtyF T.t.D) = none ∧ g'.d = g.d) ∨
     (c = 10 ∧ g.d.armed = true ∧ g'.dead = true ∧ g'.d.Ok (N + 110) ∧ (∀ cs, Opens (D5.bootS g'.d cs).secs V ∨ Opens (D5.bootS g'.d cs).secs V') ∧ Opens (D5.bootS g'.d []).secs V))
set_option maxRecDepth 100000 in
set_option maxHeartbeats 1000000 in
theorem ov_commit {w : World} {base n N : Nat} {k : Bk} {y : Bx} {g : Pg} {T : Tr} {V V' : Pgs} (h : TxV w base k y n g T) (o : Over g T V V' N) (hE : Env w) (b5 : 5 ≤ base) (hb : base ≤ w.heap.size) (hN : N ≤ 4800) (hre : g.r.e < 999999) :
    Calls Tryz.prog 14 #[.pointer (some ⟨y.x, 0, none⟩)] w (ComO w base k y g T V V' N) := by
  have hs := o.st.sto
  have hn1 := hs.n1
  have hn2 := hs.n2
  have hA : ComA w base k y n g T N := ⟨h, o.st.dead, b5, hE.tab, hE.pl, hb, o.st.fit, o.ml, hn1, by omega, o.st.off, o.st.pend, o.st.ok⟩
  by_cases hD : T9.dirtyF T.t.D = []
  · refine (commit_clean hA hD).mono fun e w' hh => ?_
    obtain ⟨e1, e2, e3, e4⟩ := hh
    have hvv := clean_same o hD
    have hst := (o.st.busy false)
    refine ⟨0, k, _, e1, rfl, rfl, e2, rfl, e3, fun i hi => .inl (.inl hi), e4, .inl ⟨rfl, ?_, .inl ⟨rfl, hvv⟩, .inl hD, fun h => h, rfl⟩⟩
    rw [hvv]
    exact ⟨hst.sto, hst.roots, hst.off, hst.pend, hst.ok.more (by omega), hst.dead, hst.re⟩
  · cases hP : planTo T.t.P ⟨g.r.cs, T.m, []⟩ (T9.dirtyF T.t.D) with
    | none =>
      refine (commit_full hA hD hP).mono fun e w' hh => ?_
      obtain ⟨e1, e2, e3, e4⟩ := hh
      exact ⟨11, k, _, e1, rfl, rfl, e2, rfl, e3, fun i hi => .inl (.inl hi), e4, .inr (.inl ⟨rfl, o.st.busy false, rfl, hP, rfl⟩)⟩
    | some s =>
      have hpl := o.tx.plan hs hP
      have hw := o.tx.wrs hs hpl
      have hnew := hs.commit o.tx hpl
      have hlaid := D5.laidF_length (wrF T.t.P T.X ++ s.ws) g.d.secs
      have hok : PlanOk g.d.secs.length T.t.P s := ⟨hnew.len, hnew.pos, (used_nodup _ _).2 hnew.apart, fun x hx => by have := hnew.inn x hx; rw [hlaid] at this; exact this⟩
      have hgood := newR_good hnew g.r o.st.re
      rw [hlaid] at hgood
      have hll := hw.length_le
      obtain ⟨rb, hrb⟩ : ∃ rb : ByteArray, rb.data.toList = R8.putL (newR g.r g.d.secs.length s.cs) := ⟨⟨(R8.putL (newR g.r g.d.secs.length s.cs)).toArray⟩, by simp⟩
      refine (commit_lay hA hD hP hok ⟨_, hw⟩ hgood hrb (by omega)).mono fun e w' hh => ?_
      obtain ⟨c, k', g', e1, e2, e2d, e3, e4, e5, e6, e7⟩ := hh
      refine ⟨c, k', _, e1, e2, e2d, e3, rfl, e4, e5, e6, ?_⟩
      rcases e7 with ⟨hcut, rfl, s1, hc, hoff, hok1, rfl⟩ | ⟨hcut, rfl, hok1, rfl⟩
      · refine .inr (.inr ⟨rfl, hcut.1, rfl, hok1.more (by omega), fun cs => crash hs o.st.roots o.st.re o.tx hpl hrb hc hok1 cs, crash_none hs o.st.roots o.tx hpl hc hok1⟩)
      · have hoff : ∀ q, q < 2 → secAt (D5.laidF (wrF T.t.P T.X ++ s.ws) g.d.secs) q = secAt g.d.secs q := by
          intro q hq
          refine laid_off q _ _ fun x hx => ?_
          obtain ⟨c, e, h2, _⟩ := hw.each x hx
          exact ⟨c, e, by omega⟩
        have hr1 : Roots (D5.laidF (wrF T.t.P T.X ++ s.ws) g.d.secs) g.r g.wh := o.st.roots.frame hlaid (hoff 0 (by omega)) (hoff 1 (by omega))
        have hrb' : rb.data.toList = R8.putL (newR g.r (D5.laidF (wrF T.t.P T.X ++ s.ws) g.d.secs).length s.cs) := by rw [hlaid]; exact hrb
        have hrz : rb.size = 256 := by rw [ba_size hrb]; exact R8.putL_length _ hnew.len
        have hto2 : toN g.wh < 2 := by unfold toN; split <;> omega
        have hnx := Roots.next (ss2 := g.d.secs) hnew hr1 o.st.re rb hrb'
        rw [hlaid, toN_is] at hnx
        have hst := hnew.set01 (toN g.wh) hto2 rb hrz
        refine .inl ⟨rfl, ⟨?_, hnx, rfl, rfl, hok1.more (by omega), o.st.dead, ?_⟩, .inr ?_, .inr (fun hc => hcut (cut_more hc (by omega))), fun h => h, by show ((D5.laidF (wrF T.t.P T.X ++ s.ws) g.d.secs).set (toN g.wh) rb).length = _; rw [List.length_set, hlaid]⟩
        · have hm : marks (D5.laidF (wrF T.t.P T.X ++ s.ws) g.d.secs).length (usedL s.cs T.t.P) = marks g.d.secs.length (usedL s.cs T.t.P) := by rw [hlaid]
          exact hst
        · show (newR g.r g.d.secs.length s.cs).e < 1000000
          rw [newR_e _ _ _ o.st.re]; omega
        · exact newR_e _ _ _ o.st.re
end Go.Proofs.YtjbfooaembpdfaaGreatDoor.J10

/-
  A new disk is a store without pages; and a store that opens; over this seat's translation; conditions: those that each law states.
-/
namespace Go.Proofs.YtjbfooaembpdfaaGreatDoor.J10
open Go.RowKit Go.Maps
theorem sec_new {n k : Nat} (h : k < n) : secAt (D5.newS n).secs k = D5.noB := by
  show (List.replicate n D5.noB).getD k _ = _
  rw [List.getD_eq_getElem?_getD, List.getElem?_replicate, if_pos h]; rfl
theorem Sto.fresh {n : Nat} (h1 : 64 ≤ n) (h2 : n ≤ 100) : Sto (D5.newS n).secs R8.zeroR.cs T9.newF (marks n (usedL R8.zeroR.cs T9.newF.P)) (fun _ => none) := by
  have hl : (D5.newS n).secs.length = n := List.length_replicate
  have hz : ∀ j, T9.newF.P.getD j 0 = 0 := by
    intro j
    show (List.replicate 960 0).getD j 0 = 0
    rw [List.getD_eq_getElem?_getD, List.getElem?_replicate]
    split <;> rfl
  have hc : ∀ i, cN R8.zeroR.cs i = 0 := by
    intro i
    show ((List.replicate 8 (0 : Int)).getD i 0).toNat = 0
    rw [List.getD_eq_getElem?_getD, List.getElem?_replicate]
    split <;> rfl
  refine ⟨by omega, by omega, (D5.newS_ok n (by omega)).whole, T9.newF_fit, rfl, rfl, fun i _ => ?_, ⟨fun i j _ _ _ e => absurd (hz i) e, fun i j _ _ _ e => absurd (by rw [cN_map]; exact hc i) e, fun j _ e => by rw [hz] at e; omega, fun i _ e => by rw [hc] at e; omega, fun j i _ _ e => absurd (hz j) e⟩, fun x hx => ?_, by rw [hl], fun i _ => .inl ⟨hc i, fun j _ _ => hz j⟩, fun j _ => .inl ⟨hz j, rfl⟩, fun _ _ => rfl⟩
  · show (0 : Int) ≤ (List.replicate 8 (0 : Int)).getD i 0
    rw [List.getD_eq_getElem?_getD, List.getElem?_replicate]
    split <;> simp
  · rw [hl]
    rcases mem_used.1 hx with ⟨h0, j, _, e⟩ | rfl | rfl | ⟨h0, i, _, e⟩
    · rw [hz] at e; exact absurd e.symm h0
    · omega
    · omega
    · rw [hc] at e; exact absurd e.symm h0
theorem Roots.fresh {n : Nat} (h1 : 64 ≤ n) : Roots (D5.newS n).secs R8.zeroR (-1) := by
  have e : D5.noB.data.toList = R8.zer 256 := rfl
  refine .inl ⟨rfl, rfl, ?_, ?_⟩
  · unfold bytesAt; rw [sec_new (by omega), e]
  · unfold bytesAt; rw [sec_new (by omega), e]
/-- A pager whose pages can be read. -/
structure Shows (g : Pg) (V : Pgs) (N : Nat) : Prop where
  sto : Sto g.d.secs g.r.cs g.t g.m V
  idle : Idle g.d
  ok : g.d.Ok N
  dead : g.dead = false
theorem Stands.shows {g : Pg} {V : Pgs} {N : Nat} (h : Stands g V N) (ha : g.d.armed = false) : Shows g V N := ⟨h.sto, ⟨h.off, ha, h.pend⟩, h.ok, h.dead⟩
/-- Open, in the words of the store. -/
def OpenO (w : World) (base N : Nat) (F : Nat → Prop) (p : Nat) (s : D5.St) (V : Pgs) (e : Ending) (w' : World) : Prop :=
  ∃ k g, e = .returned (.tuple #[.pointer (some ⟨k.p, 0, none⟩), .int .i64 0]) ∧ PgV w' base k g ∧ Shows g V (N + 10) ∧ g.busy = false ∧ g.d.secs = s.secs ∧ k.dp = p ∧ (∀ i, footG k i → F i ∨ w.heap.size ≤ i) ∧ D5.Kp F w w'
theorem ov_open {w : World} {base N : Nat} {F : Nat → Prop} {p : Nat} {s : D5.St} {V : Pgs} (hP : D5.PD w base F p s) (hi : Idle s) (hok : s.Ok N) (hN : N ≤ 3900) (ho : Opens s.secs V) (hE : Env w) (hb : base ≤ w.heap.size) (hF : ∀ i, F i → 5 ≤ i ∧ i < w.heap.size) :
    Calls Tryz.prog 8 #[.pointer (some ⟨p, 0, none⟩)] w (OpenO w base N F p s V) := by
  obtain ⟨r, wh, t, m, hr, hs⟩ := ho
  refine (open_any hP hi hok hN hr hs hE.pl hE.hd hb hF).mono fun e w' hh => ?_
  obtain ⟨k, q, e1, hq, hp, hok', e2, hf, hk⟩ := hh
  exact ⟨k, _, e1, hp, ⟨hs, ⟨rfl, hi.2.1, rfl⟩, hok'.more (by omega), rfl⟩, rfl, rfl, e2, hf, hk⟩
/-- Open, on a new disk. -/
theorem ov_fresh {w : World} {base n : Nat} {F : Nat → Prop} {p : Nat} (hP : D5.PD w base F p (D5.newS n)) (h1 : 64 ≤ n) (h2 : n ≤ 100) (hE : Env w) (hb : base ≤ w.heap.size) (hF : ∀ i, F i → 5 ≤ i ∧ i < w.heap.size) :
    Calls Tryz.prog 8 #[.pointer (some ⟨p, 0, none⟩)] w fun e w' => ∃ k g, e = .returned (.tuple #[.pointer (some ⟨k.p, 0, none⟩), .int .i64 0]) ∧ PgV w' base k g ∧ Stands g (fun _ => none) 10 ∧ g.busy = false ∧ g.d.armed = false ∧ g.d.secs = (D5.newS n).secs ∧ g.r.e = 0 ∧ g.t = T9.newF ∧ g.m = marks n (usedL R8.zeroR.cs T9.newF.P) ∧ g.r.cs = R8.zeroR.cs ∧ k.dp = p ∧ (∀ i, footG k i → F i ∨ w.heap.size ≤ i) ∧ D5.Kp F w w' := by
  have hi : Idle (D5.newS n) := ⟨rfl, rfl, rfl⟩
  refine (open_any hP hi (D5.newS_ok n (by omega)) (by omega) (Roots.fresh h1).picks (Sto.fresh h1 h2) hE.pl hE.hd hb hF).mono fun e w' hh => ?_
  obtain ⟨k, q, e1, hq, hp, hok', e2, hf, hk⟩ := hh
  exact ⟨k, _, e1, hp, ⟨Sto.fresh h1 h2, Roots.fresh h1, rfl, rfl, hok'.more (by omega), rfl, (show (0 : Nat) < 1000000 by decide)⟩, rfl, rfl, rfl, rfl, rfl, rfl, rfl, e2, hf, hk⟩
end Go.Proofs.YtjbfooaembpdfaaGreatDoor.J10

/-
  The law's small functions: a body (body), over this seat's translation; no conditions.
-/
namespace Go.Proofs.YtjbfooaembpdfaaGreatDoor.J10
open Go.RowKit Go.Maps
theorem Tryz.infoByte : (Tryz.prog.info? 5).map (fun i => (i.zero, i.size, i.bytes)) = some (some (.int .u8 0), 1, 1) := by kernel_rfl
theorem made_one (v : Value) (n : Nat) (h : v.cells = #[v]) : madeCells v.cells n = (List.replicate n v).toArray := by
  rw [h]; apply Array.toList_inj.1; rw [toList_madeCells_one]
def byC (l : List UInt8) : List Value := l.map fun b => Value.int .u8 (b.toNat : Nat)
theorem byC_at {l : List UInt8} {j : Nat} (h : j < l.length) : (byC l)[j]? = some (.int .u8 ((l.getD j 0).toNat : Nat)) := by simp [byC, List.getD_eq_getElem?_getD, h]
theorem byC_set (l : List UInt8) (k : Nat) (c : UInt8) : (byC l).toArray.setIfInBounds k (.int .u8 (c.toNat : Nat)) = (byC (l.set k c)).toArray := by
  rw [List.setIfInBounds_toArray]
  unfold byC
  rw [List.map_set]
theorem make_by (n : Nat) (w : World) (hn : n ≤ 100000) : (Instr.makeSlice 24 (.int .i64 (n : Nat)) (.int .i64 (n : Nat))).run Tryz.prog w = .ok (.slice (some ⟨w.heap.size, 0, none⟩) n n) (w.alloc (.cells (byC (List.replicate n 0)).toArray 5)) := by
  obtain ⟨i0, hi, hz0, hz1, hz2⟩ := info_parts Tryz.infoByte
  have h := run_make (P := Tryz.prog) w 24 5 i0 (.int .u8 0) Tryz.underlying24 hi hz0 .i64 .i64 (n : Int) (n : Int) (by omega) (by omega) (by rw [hz2]; omega) (by omega)
  have e : byC (List.replicate n 0) = List.replicate n (Value.int .u8 0) := by simp [byC]
  rw [hz1, Nat.mul_one, Int.toNat_natCast, made_one _ _ rfl, ← e] at h
  exact h
theorem by_str {W : World} {b : Nat} {l : List UInt8} (h : Blk W b 5 (byC l).toArray) (n : Nat) (hn : n = l.length) :
    (convert 24 9 (.slice (some ⟨b, 0, none⟩) n n)).run Tryz.prog W = .ok (.string ⟨l.toArray⟩) W := by
  subst hn
  exact run_convert_bytes_back W 24 9 5 ⟨b, 0, none⟩ l.length l Tryz.underlying24 Tryz.underlying5 Tryz.underlying9 (fun j hj => by
    rw [Addr.add_mid, Nat.zero_add, h.cell j (by rw [List.getElem?_toArray]; exact byC_at hj)]
    simp [List.getD_eq_getElem?_getD, hj])
/-- An act. -/
def actV (a b c d : UInt8) : Array Value := #[.int .u8 (a.toNat : Nat), .int .u8 (b.toNat : Nat), .int .u8 (c.toNat : Nat), .int .u8 (d.toNat : Nat)]
set_option maxRecDepth 100000 in
set_option maxHeartbeats 2000000 in
theorem body_any (a b c d : UInt8) (w : World) : Calls Tryz.prog 31 #[.agg (actV a b c d)] w fun e w' => ∃ s : ByteArray, e = .returned (.string s) ∧ s.size ≤ 243 ∧ w.grownBy w' none := by
  obtain ⟨n, hn⟩ : ∃ n, d.toNat % 244 = n := ⟨_, rfl⟩
  have hn2 : n ≤ 243 := by omega
  have hm : ((d.toNat : Nat) : Int) % 244 = (n : Nat) := by omega
  have hd := UInt8.toNat_lt d
  have mk := fun W => make_by n W (by omega)
  go_enter Tryz.func31, Tryz.ntmps31
  unfold actV
  go_wp2
  have gA := gb_alloc w (.cells (actV a b c d) 87) none
  have gB := gb_alloc (w.alloc (.cells (actV a b c d) 87)) (.cells (byC (List.replicate n 0)).toArray 5) none
  have b1 := (Blk.mk w 87 (actV a b c d)).keep0 gB
  have b2 := Blk.mk (w.alloc (.cells (actV a b c d) 87)) 5 (byC (List.replicate n 0)).toArray
  rw [World.size_alloc] at b2
  have g0 := gb_trans gA gB
  change Code.wp _ _ _ _ ((w.alloc (.cells (actV a b c d) 87)).alloc (.cells (byC (List.replicate n 0)).toArray 5))
  generalize (w.alloc (.cells (actV a b c d) 87)).alloc (.cells (byC (List.replicate n 0)).toArray 5) = w0 at *
  have G0 := Lib.hid g0
  have B1 := Lib.hid b1
  have B2 := Lib.hid b2
  clear gA gB b1 b2 g0 mk
  go_loopw [4] (fun v wr => ∃ (k : Nat) (l : List UInt8), k ≤ n ∧ v = .int .i64 (k : Nat) ∧ l.length = n ∧ Blk wr (w.heap.size + 1) 5 (byC l).toArray ∧ Blk wr w.heap.size 87 (actV a b c d) ∧ w.grownBy wr none) (fun v _ => n - (intOf v).toNat)
  case atStart => exact ⟨0, List.replicate n 0, by omega, rfl, List.length_replicate, B2.out, B1.out, G0.out⟩
  case round =>
    obtain ⟨k, l, hk, rfl, hll, hb, hx, hg⟩ := hrel
    by_cases hlt : k < n
    · have c2 : wr.cell? ⟨w.heap.size, 2, none⟩ = some (.int .u8 (c.toNat : Nat)) := hx.cell 2 rfl
      have d0 := hb.cell k (v := .int .u8 ((l.getD k 0).toNat : Nat)) (by rw [List.getElem?_toArray]; exact byC_at (by omega))
      have e0 := hb.free k
      have hnew := hb.set k (.int .u8 (c.toNat : Nat))
      rw [byC_set] at hnew
      have gs := gb_set wr (w.heap.size + 1) k none (.int .u8 (c.toNat : Nat))
      have hxn := hx.keep gs (ne_some (by omega))
      have HNw := Lib.hid hnew
      have HX := Lib.hid hxn
      have HG := Lib.hid (gb_step hg gs (by omega))
      clear hnew hxn hg hx hb gs
      go_wp2
      go_roundw
      case rel => exact ⟨k + 1, l.set k c, by omega, by go_num, by rw [List.length_set]; exact hll, HNw.out, HX.out, HG.out⟩
      case measure => simp [intOf]; omega
    · obtain rfl : k = n := by omega
      have hcv := by_str hb k hll.symm
      have hsz : (⟨l.toArray⟩ : ByteArray).size = k := by show l.toArray.size = k; rw [List.size_toArray]; exact hll
      have HG := Lib.hid hg
      clear hg hx hb
      go_wp2
      go_ret
      exact ⟨_, rfl, by omega, HG.out⟩
end Go.Proofs.YtjbfooaembpdfaaGreatDoor.J10

/-
  The law's copy of a state (copied), over this seat's translation; conditions: the state is a map that lies as Je tells.
-/
namespace Go.Proofs.YtjbfooaembpdfaaGreatDoor.J10
open Go.RowKit Go.Maps Go.ChangeMaps
theorem Mp.congr {w : World} {b n : Nat} {f g : Pgs} (h : Mp w b n f) (e : ∀ i, In64 i → f i = g i) : Mp w b n g := by
  obtain ⟨D, h1, h2⟩ := h
  refine ⟨D, h1, fun i hi => ?_⟩
  rw [← e i hi]
  exact h2 i hi
theorem key_inv (key : Value) (kl : Lit) (h : keyOf Tryz.prog 3 key = some kl) : ∃ x : Int, key = .int .i64 x := by
  obtain ⟨x, e, _⟩ := Maps.keyOf_int_inv Tryz.underlying3 h
  exact ⟨x, e⟩
theorem elR_inv' (v : Value) (y : DataW Unit × List MemPlace) (h : elR v = some y) : ∃ c, v = elV c := by
  obtain ⟨x, e, _⟩ := elR_inv h
  exact ⟨x, e⟩
/-- What has come, out of a range. -/
theorem came {D : DataW Unit} {f : Pgs} (hv : Vw D f) {x : Int} {c : Nat × ByteArray} {kl : Lit} {y : DataW Unit × List MemPlace} (hk : keyOf Tryz.prog 3 (.int .i64 x) = some kl) (hy : elR (elV c) = some y) (hat : ∀ zd, D.atKey kl zd = y.1) : In64 x ∧ kl = .int .i64 x ∧ f x = some c := by
  obtain ⟨x', e1, e2, e3⟩ := Maps.keyOf_int_inv Tryz.underlying3 hk
  cases e1
  have hx : In64 x := by
    have h1 := e3
    have h2 : (decide (-9223372036854775808 ≤ x) && decide (x ≤ 9223372036854775807)) = true := h1
    simp at h2
    exact h2
  refine ⟨hx, e2, ?_⟩
  rw [elR_mk] at hy
  cases hy
  rw [e2] at hat
  have hh : Maps.has D (.int .i64 x) = true := has_true_of_atKey hat
  rcases hv x hx with ⟨_, h2⟩ | ⟨z, h1, _, h3⟩
  · rw [hh] at h2; cases h2
  · have h4 := (h3 .nil).symm.trans (hat .nil)
    rw [h1, elD_inj h4]
def leftF (left : Lit → Bool) (f : Pgs) : Pgs := fun i => if left (.int .i64 i) = true then none else f i
theorem leftF_start {D : DataW Unit} {f : Pgs} (hv : Vw D f) {i : Int} (hi : In64 i) : none = leftF (Maps.has D) f i := by
  unfold leftF
  rcases hv i hi with ⟨h1, h2⟩ | ⟨z, h1, h2, _⟩
  · rw [h2, h1]; rfl
  · rw [h2]; rfl
theorem leftF_step {left : Lit → Bool} {f : Pgs} {x : Int} {c : Nat × ByteArray} (h : f x = some c) (i : Int) : upd (leftF left f) x c i = leftF (fun z => left z && !z.sameKey (.int .i64 x)) f i := by
  unfold upd leftF
  by_cases e : i = x
  · subst e
    simp [Lit.sameKey, h]
  · simp [Lit.sameKey, e]
theorem leftF_end {left : Lit → Bool} {f : Pgs} (h : ∀ kl, left kl = false) : leftF left f = f := by
  funext i; unfold leftF; rw [h]; rfl
set_option maxRecDepth 100000 in
set_option maxHeartbeats 4000000 in
theorem copied_map {w : World} {b n : Nat} {f : Pgs} (h : Mp w b n f) (hn : n < 100000) : Calls Tryz.prog 11 #[.map (some b)] w fun e w' => ∃ b', e = .returned (.map (some b')) ∧ w.heap.size ≤ b' ∧ Mp w' b' n f ∧ w.grownBy w' none := by
  have hmm := @run_makeMap Tryz.prog
  have hblt := h.lt
  obtain ⟨D, hown, hv⟩ := h
  have HV := Lib.hid hv
  have HO := Lib.hid hown
  clear hv hown
  go_enter Tryz.func11, Tryz.ntmps11
  go_wp2_with (first
    | (at_range; refine wpList_range_own _ rfl _ 33 rfl 3 62 lawI pairP.map elR b n D rfl (HO.out.kept (gb_alloc w (.map #[] 0) none) (by simp)) ?_; intro w1 hrg0 hg0 hs0; have hrg0 := Lib.hid hrg0; have hg0 := Lib.hid hg0; have hs0 := Lib.hid hs0)
    | fail)
  go_frame
  rw [World.size_alloc] at hrg0 hs0
  have gm := gb_alloc w (.map #[] 0) none
  have hM0 : Mp w1 w.heap.size 0 (leftF (Maps.has D) f) := ((Mp.made w).keep0 hg0.out).congr (fun i hi => leftF_start HV.out hi)
  have hg1 := gb_trans gm hg0.out
  have hsz1 := hs0.out
  have hle := HO.out.size_le
  have HM0 := Lib.hid hM0
  have HG1 := Lib.hid hg1
  clear hM0 hg1 gm
  try rw [World.size_alloc]
  go_loopw [9] (fun _ wr => ∃ left cnt m', m' + cnt ≤ n ∧ wr.ranges Tryz.prog 3 elR b (w.heap.size + 1) n D left cnt ∧ Mp wr w.heap.size m' (leftF left f) ∧ w.grownBy wr none ∧ w.heap.size + 2 ≤ wr.heap.size) (fun _ wr => wr.rangeLeft b (w.heap.size + 1))
  case atStart => exact ⟨_, _, 0, by omega, hrg0.out, HM0.out, HG1.out, by omega⟩
  case round =>
    obtain ⟨left, cnt, m', hm, hrg, hM, hg, hsz⟩ := hrel
    have HR := Lib.hid hrg
    have HM := Lib.hid hM
    have HG := Lib.hid hg
    clear hrg hM hg
    go_wp2_with (first
      | (at_next; refine wpList_next_ranges _ rfl _ rfl 3 lawI elR (Value.int .i64) elV key_inv elR_inv' b (w.heap.size + 1) n _ _ _ rfl HR.out ?_ ?_)
      | fail)
    · intro hc0 hl0
      have hM := HM.out
      rw [leftF_end hl0] at hM
      have HM2 := Lib.hid (hM.mono (by omega : m' ≤ n))
      clear hM HM hl0
      go_wp2
      go_ret
      exact ⟨w.heap.size, rfl, Nat.le_refl _, HM2.out, HG.out⟩
    · intro x kd bd kl y1 y2 w2 cnt2 hk hl hy hat hrg2 hlt hg2 hs2 hen
      obtain ⟨hx, rfl, hfx⟩ := came HV.out hk hy hat
      have hM2 := HM.out.keep hg2 (by simp)
      have HR2 := Lib.hid hrg2
      have HG2 := Lib.hid (gb_step HG.out hg2 (by omega))
      have HFx := Lib.hid hfx
      have HX := Lib.hid hx
      clear hk hy hat hrg2 hg2 hfx hx hl
      simp only [elV] at hen
      go_wp2_with (first
        | (refine wpList_mput rfl (.tmp 14) (.tmp 15) (.tmp 16) rfl pairP rfl (hM2.keep0 (gb_alloc w2 (.cells #[.int .i64 (kd : Nat), .string bd] 62) none)) (by omega) x HX.out (kd, bd) rfl rfl ?_; intro w4 hM4 g4; have hM4 := Lib.hid hM4; have g4 := Lib.hid g4)
        | fail)
      have hR4 := (HR2.out.alloc (.cells #[.int .i64 (kd : Nat), .string bd] 62)).kept g4.out (by simp; omega) (by simp)
      have hR4h := Lib.hid hR4
      have z4 := g4.out.size
      rw [World.size_alloc] at z4
      go_frame
      go_roundw
      case rel => exact ⟨_, cnt2, m' + 1, by omega, hR4h.out, hM4.out.congr (fun i _ => leftF_step HFx.out i), gb_step (gb_trans HG2.out (gb_alloc w2 (.cells #[.int .i64 (kd : Nat), .string bd] 62) none)) g4.out (Nat.le_refl _), by omega⟩
      case measure => rw [hR4h.out.left_eq, HR.out.left_eq]; exact hlt
end Go.Proofs.YtjbfooaembpdfaaGreatDoor.J10

/-
  The law's comparison of two states (same), over this seat's translation; conditions: both are maps that lie as Je tells.
-/
namespace Go.Proofs.YtjbfooaembpdfaaGreatDoor.J10
open Go.RowKit Go.Maps Go.ChangeMaps
theorem only_ints {w : World} {b n : Nat} {D : DataW Unit} (h : w.ownsMap Tryz.prog 3 elR b n D) {kl : Lit} (hh : Maps.has D kl = true) : ∃ x : Int, In64 x ∧ kl = .int .i64 x := by
  obtain ⟨es, clock, hb, F, hs, rfl⟩ := h
  rw [Maps.has_eq, List.any_eq_true] at hh
  obtain ⟨p, hp, hk⟩ := hh
  have hp := mem_sorted.1 hp
  obtain ⟨x, hx, rfl⟩ := List.mem_map.1 hp
  obtain ⟨y, hy⟩ := F.reads x hx
  have hky := WideElems.rd_key hy
  rw [WideElems.rg_of hy] at hk
  obtain ⟨z, e1, e2, e3⟩ := Maps.keyOf_int_inv Tryz.underlying3 hky
  have hz : In64 z := by
    have h2 : (decide (-9223372036854775808 ≤ z) && decide (z ≤ 9223372036854775807)) = true := e3
    simp at h2
    exact h2
  rw [e2] at hk
  cases kl with
  | int q a =>
    have h2 : decide (IntKind.i64 = q ∧ z = a) = true := hk
    have h3 := of_decide_eq_true h2
    exact ⟨z, hz, by rw [h3.1, h3.2]⟩
  | _ => cases hk
theorem page_fields : Tryz.prog.underlying 62 = some (.struct (Tryz.prog.fieldsOf 62)) := by kernel_rfl
theorem page_held : Tryz.prog.stoodInHeld 62 = false := by kernel_rfl
theorem page_two : (Tryz.prog.fieldsOf 62).toList.map (fun f => (f.name, f.type, f.offset)) = [("kind", 3, 0), ("body", 9, 1)] := by kernel_rfl
theorem part_kind (x : Nat × ByteArray) (w : World) : (part 3 #[.int .i64 (x.1 : Nat), .string x.2] 0).run Tryz.prog w = .ok (.int .i64 (x.1 : Nat)) w := by
  go_simp
theorem part_body (x : Nat × ByteArray) (w : World) : (part 9 #[.int .i64 (x.1 : Nat), .string x.2] 1).run Tryz.prog w = .ok (.string x.2) w := by
  go_simp
theorem neq_page (x y : Nat × ByteArray) (w : World) : (binOp .neq 62 (elV x) (elV y)).run Tryz.prog w = .ok (.bool (!decide (x = y))) w := by
  unfold elV
  rw [run_neq_struct, show (10000 : Nat) = 9998 + 1 + 1 from rfl, run_equalIn_struct w (9998 + 1) _ _ _ page_fields page_held]
  have h := page_two
  have e1 := run_equalIn_int (P := Tryz.prog) (w := w) 9998 3 .i64 .i64 (x.1 : Nat) (y.1 : Nat) Tryz.underlying3
  have e2 := run_equalIn_string (P := Tryz.prog) (w := w) 9998 9 x.2 y.2 Tryz.underlying9
  have n1 : ("kind" : String) ≠ "_" := by decide
  have n2 : ("body" : String) ≠ "_" := by decide
  rcases hfs : (Tryz.prog.fieldsOf 62).toList with _ | ⟨f1, _ | ⟨f2, _ | ⟨f3, r⟩⟩⟩
  · rw [hfs] at h; simp at h
  · rw [hfs] at h; simp at h
  · rw [hfs] at h
    simp only [List.map_cons, List.map_nil, List.cons.injEq, Prod.mk.injEq, and_true] at h
    obtain ⟨⟨a1, a2, a3⟩, b1, b2, b3⟩ := h
    simp only [Op.eqFields, a1, a2, a3, b1, b2, b3, if_pos n1, if_pos n2, Sem.run_bind, part_kind, part_body, Result.andThen_ok, e1, e2]
    have hk : (((x.1 : Nat) : Int) == ((y.1 : Nat) : Int)) = (x.1 == y.1) := by
      rw [Bool.eq_iff_iff, beq_iff_eq, beq_iff_eq]; omega
    rw [hk]
    obtain ⟨xk, xb⟩ := x
    obtain ⟨yk, yb⟩ := y
    have hb : (xb.toList == yb.toList) = decide (xb = yb) := by
      rw [Bool.eq_iff_iff, beq_iff_eq, decide_eq_true_iff]
      constructor
      · intro e
        exact list_ba (by rw [← ByteArray.toList_eq, ← ByteArray.toList_eq]; exact e)
      · intro e; rw [e]
    have p1 := part_body (xk, xb) w
    have p2 := part_body (yk, yb) w
    simp only at p1 p2 e2 ⊢
    rw [hb] at e2
    by_cases h1 : xk = yk
    · subst h1
      simp [Sem.run_bind, p1, p2, e2, Result.andThen_ok]
      by_cases h2 : xb = yb
      · simp [h2]
      · simp [h2]
    · simp [h1]
  · rw [hfs] at h; simp at h
theorem one_view {w v : World} {b c n k : Nat} {D E : DataW Unit} {f : Pgs} (h : w.ownsMap Tryz.prog 3 elR b n D) (hv : Vw D f) (g : v.ownsMap Tryz.prog 3 elR c k E) (gv : Vw E f) : D = E := by
  have hh : ∀ kl, Maps.has D kl = Maps.has E kl := by
    intro kl
    cases e1 : Maps.has D kl with
    | true =>
      obtain ⟨x, hx, rfl⟩ := only_ints h e1
      rcases hv x hx with ⟨_, q⟩ | ⟨z, q, _, _⟩
      · rw [e1] at q; cases q
      · rcases gv x hx with ⟨q2, _⟩ | ⟨_, _, q2, _⟩
        · rw [q] at q2; cases q2
        · exact q2.symm
    | false =>
      cases e2 : Maps.has E kl with
      | false => rfl
      | true =>
        obtain ⟨x, hx, rfl⟩ := only_ints g e2
        rcases gv x hx with ⟨_, q⟩ | ⟨z, q, _, _⟩
        · rw [e2] at q; cases q
        · rcases hv x hx with ⟨q2, _⟩ | ⟨_, _, q2, _⟩
          · rw [q] at q2; cases q2
          · rw [e1] at q2; cases q2
  refine Maps.ext (h.canon lawI) (g.canon lawI) hh (fun kl z e1 => ?_)
  obtain ⟨x, hx, rfl⟩ := only_ints h e1
  rcases hv x hx with ⟨_, q⟩ | ⟨a, q, _, q3⟩
  · rw [e1] at q; cases q
  · rcases gv x hx with ⟨q2, _⟩ | ⟨a', q2, _, q4⟩
    · rw [q] at q2; cases q2
    · rw [q] at q2
      cases q2
      rw [q3, q4]
set_option maxRecDepth 100000 in
theorem Mp.getNo {w : World} {b n : Nat} {f : Pgs} {t e : TypeId} (h : Mp w b n f) (T : PairT t e) {i : Int} (hi : In64 i) (hx : f i = none) : (Instr.lookup t (.map (some b)) (.int .i64 i) false).run Tryz.prog w = .ok (elV (0, noE)) w := by
  obtain ⟨D, h, v⟩ := h
  obtain ⟨u, ps, hrun, hR⟩ := h.lookup lawI T.map (T.zero w) (elR_mk _) (key_int hi)
  rcases v i hi with ⟨_, h2⟩ | ⟨y, h1, _⟩
  · rw [atKey_of_not_has h2] at hR
    obtain ⟨z, rfl, hz⟩ := elR_inv hR
    injection hz with hz _
    rw [← elD_inj hz] at hrun
    exact hrun
  · rw [hx] at h1; cases h1
theorem Mp.get {w : World} {b n : Nat} {f : Pgs} {t e : TypeId} (h : Mp w b n f) (T : PairT t e) {i : Int} (hi : In64 i) : (Instr.lookup t (.map (some b)) (.int .i64 i) false).run Tryz.prog w = .ok (elV ((f i).getD (0, noE))) w := by
  cases hx : f i with
  | none => exact h.getNo T hi hx
  | some x => exact h.getYes T hi hx
end Go.Proofs.YtjbfooaembpdfaaGreatDoor.J10

/-
  The law's comparison of two states (same): its walk, over this seat's translation; conditions: both are maps that lie as Je tells.
-/
namespace Go.Proofs.YtjbfooaembpdfaaGreatDoor.J10
open Go.RowKit Go.Maps Go.ChangeMaps
set_option maxRecDepth 100000 in
set_option maxHeartbeats 4000000 in
theorem same_any {w : World} {a b n m : Nat} {f g : Pgs} (ha : Mp w a n f) (hb : Mp w b m g) (hne : a ≠ b) :
    Calls Tryz.prog 17 #[.map (some a), .map (some b)] w fun e w' => ∃ t, e = .returned (.bool t) ∧ (f = g → t = true) ∧ w.grownBy w' none := by
  have lta := ha.lt
  have ltb := hb.lt
  obtain ⟨D, ho, hv⟩ := ha
  obtain ⟨E, go, gv⟩ := hb
  have HO := Lib.hid ho
  have HV := Lib.hid hv
  have HB := Lib.hid (⟨E, go, gv⟩ : Mp w b m g)
  have GO := Lib.hid go
  have HS := Lib.hid (fun (e : f = g) => by subst e; exact congrArg Maps.size (one_view ho hv go gv) : f = g → Maps.size D = Maps.size E)
  have hz1 := ho.size_le
  have hz2 := go.size_le
  obtain ⟨z1, e1⟩ : ∃ z, Maps.size D = z := ⟨_, rfl⟩
  obtain ⟨z2, e2⟩ : ∃ z, Maps.size E = z := ⟨_, rfl⟩
  rw [e1, e2] at HS
  have E1 := Lib.hid e1
  have E2 := Lib.hid e2
  clear ho hv go gv hz1 hz2 e1 e2
  go_enter Tryz.func17, Tryz.ntmps17
  by_cases hz : z1 = z2
  · subst hz
    go_wp2_with (first
      | (at_len; refine wpList_len_own _ rfl (.tmp 7) _ rfl 3 62 pairP.map elR a n D rfl HO.out ?_; rw [E1.out])
      | (at_len; refine wpList_len_own _ rfl (.tmp 9) _ rfl 3 62 pairP.map elR b m E rfl GO.out ?_; rw [E2.out])
      | (at_range; refine wpList_range_own _ rfl _ 33 rfl 3 62 lawI pairP.map elR a n D rfl HO.out ?_; intro w1 hrg0 hg0 hs0; have hrg0 := Lib.hid hrg0; have hg0 := Lib.hid hg0; have hs0 := Lib.hid hs0)
      | fail)
    try go_frame
    have hrg := hrg0.out
    have hg1 := hg0.out
    have hsz1 := hs0.out
    have HRg := Lib.hid hrg
    have HG1 := Lib.hid hg1
    clear hrg hg1
    go_loopw [14] (fun _ wr => ∃ left cnt, wr.ranges Tryz.prog 3 elR a w.heap.size n D left cnt ∧ w.grownBy wr none ∧ w.heap.size + 1 ≤ wr.heap.size) (fun _ wr => wr.rangeLeft a w.heap.size)
    case atStart => exact ⟨_, _, HRg.out, HG1.out, by omega⟩
    case round =>
      obtain ⟨left, cnt, hrg, hg, hsz⟩ := hrel
      have HR := Lib.hid hrg
      have HG := Lib.hid hg
      clear hrg hg
      go_wp2_with (first
        | (at_next; refine wpList_next_ranges _ rfl _ rfl 3 lawI elR (Value.int .i64) elV key_inv elR_inv' a w.heap.size n _ _ _ rfl HR.out ?_ ?_)
        | fail)
      · intro hc0 hl0
        go_wp2
        go_ret
        exact ⟨true, rfl, fun _ => rfl, HG.out⟩
      · intro x kd bd kl y1 y2 w2 cnt2 hk hl hy hat hrg2 hlt hg2 hs2 hen
        obtain ⟨hx, rfl, hfx⟩ := came HV.out hk hy hat
        have hG2 := gb_step HG.out hg2 (by omega)
        have gA := gb_alloc w2 (.cells #[.int .i64 (kd : Nat), .string bd] 62) none
        have hlk := Mp.get (Mp.keep0 (w := w) (b := b) (n := m) (f := g) HB.out (gb_trans hG2 gA)) pairP hx
        have hne2 := neq_page ((g x).getD (0, noE)) (kd, bd) (w2.alloc (.cells #[.int .i64 (kd : Nat), .string bd] 62))
        have HR2 := Lib.hid (hrg2.alloc (.cells #[.int .i64 (kd : Nat), .string bd] 62))
        have HG2 := Lib.hid (gb_trans hG2 gA)
        have HFx := Lib.hid hfx
        clear hk hy hat hrg2 hg2 hfx hx hl gA hG2
        obtain ⟨gx, hgx⟩ : ∃ gx, (g x).getD (0, noE) = gx := ⟨_, rfl⟩
        rw [hgx] at hlk hne2
        have HGx := Lib.hid hgx
        clear hgx
        obtain ⟨gk, gb⟩ := gx
        simp only [elV] at hen hlk hne2
        by_cases hq : (gk, gb) = (kd, bd)
        · cases hq
          clear hne2 HGx
          go_wp2
          refine ⟨⟨_, cnt2, HR2.out, HG2.out, ?_⟩, ?_⟩
          · have := HG2.out.size; rw [World.size_alloc]; omega
          · rw [HR2.out.left_eq, HR.out.left_eq]; exact hlt
        · have HQ := Lib.hid (fun (e : f = g) => hq (by rw [← HGx.out, ← e, HFx.out]; rfl) : f = g → False)
          clear hne2
          by_cases hk : gk = kd
          · subst hk
            have hbd : (gb.toList == bd.toList) = false := by
              rw [Bool.eq_false_iff]
              intro e
              apply hq
              have e2 : gb = bd := list_ba (by rw [← ByteArray.toList_eq, ← ByteArray.toList_eq]; exact beq_iff_eq.1 e)
              rw [e2]
            clear hq
            go_wp2
            go_ret
            exact ⟨false, rfl, fun e => (HQ.out e).elim, HG2.out⟩
          · have hkk : (((gk : Nat) : Int) == ((kd : Nat) : Int)) = false := by simp; omega
            clear hq hk
            go_wp2
            go_ret
            exact ⟨false, rfl, fun e => (HQ.out e).elim, HG2.out⟩
  · have hb0 : (((z1 : Nat) : Int) != ((z2 : Nat) : Int)) = true := by simp; omega
    have HF := Lib.hid (fun e : f = g => hz (HS.out e) : f = g → False)
    clear hz
    go_wp2_with (first
      | (at_len; refine wpList_len_own _ rfl (.tmp 7) _ rfl 3 62 pairP.map elR a n D rfl HO.out ?_; rw [E1.out])
      | (at_len; refine wpList_len_own _ rfl (.tmp 9) _ rfl 3 62 pairP.map elR b m E rfl GO.out ?_; rw [E2.out])
      | fail)
    go_ret
    exact ⟨false, rfl, fun e => (HF.out e).elim, gb_refl _ _⟩
end Go.Proofs.YtjbfooaembpdfaaGreatDoor.J10

/-
  Read of no transaction, over this seat's translation; no conditions.
-/
namespace Go.Proofs.YtjbfooaembpdfaaGreatDoor.J10
open Go.RowKit Go.Maps
theorem read_nil (p : Int) (w : World) : Calls Tryz.prog 21 #[.pointer none, .int .i64 p] w fun e w' => e = .returned (.tuple #[.int .i64 0, .string ⟨#[]⟩, .int .i64 1]) ∧ w.grownBy w' none := by
  go_enter Tryz.func21, Tryz.ntmps21
  go_wp2_with (go_at_call 41; (with_reducible refine (lacks_nil p _).mono ?_); rintro e w' ⟨rfl, rfl⟩)
  exact ⟨rfl, _, by simp [results, Tryz.results21], rfl, gb_refl _ _⟩
end Go.Proofs.YtjbfooaembpdfaaGreatDoor.J10

/-
  The law's look at a pager's pages (state), over this seat's translation; conditions: the pager shows its pages, and has no transaction.
-/
namespace Go.Proofs.YtjbfooaembpdfaaGreatDoor.J10
open Go.RowKit Go.Maps Go.ChangeMaps
/-- The pages that were read. -/
def readF (L : List Nat) (V : Pgs) : Pgs := fun p => if p ∈ L.map (fun n : Nat => (n : Int)) then V p else none
theorem readF_nil (V : Pgs) : readF [] V = fun _ => none := by funext p; simp [readF]
theorem readF_snoc (L : List Nat) (V : Pgs) {n : Nat} {x : Nat × ByteArray} (h : V (n : Int) = some x) : readF (L ++ [n]) V = upd (readF L V) (n : Int) x := by
  funext p
  unfold readF upd
  by_cases e : p = (n : Int)
  · subst e; simp [h]
  · simp [e]
theorem readF_all {g : Pg} {V : Pgs} {N : Nat} (h : Shows g V N) : readF (pagesN g.t.P) V = V := by
  funext p
  unfold readF
  rw [← pagesF_N]
  split
  · rfl
  · rename_i hp
    by_cases hq : T9.IsPage p
    · obtain ⟨j, hj, rfl⟩ := isPage_cases hq
      rcases h.sto.page j hj with ⟨_, e⟩ | ⟨e, _⟩
      · exact e.symm
      · exact absurd (mem_pages.2 ⟨j, hj, e, rfl⟩) hp
    · exact (h.sto.outV p hq).symm
/-- A page that is read. -/
theorem shows_page {g : Pg} {V : Pgs} {N : Nat} (h : Shows g V N) {i n : Nat} (hi : (pagesN g.t.P)[i]? = some n) : ∃ m kd b, In64 (n : Int) ∧ T9.getF g.t (n : Int) = m ∧ m ≠ 0 ∧ m < g.d.secs.length ∧ secAt g.d.secs m = sealB kd b ∧ 1 ≤ kd ∧ kd ≤ 254 ∧ b.size ≤ 240 ∧ V (n : Int) = some (kd, b) := by
  have hm : ((n : Nat) : Int) ∈ pagesF g.t.P := by
    rw [pagesF_N]; exact List.mem_map.2 ⟨n, List.mem_of_getElem? hi, rfl⟩
  obtain ⟨j, hj, h0, e⟩ := mem_pages.1 hm
  rw [e]
  rcases h.sto.page j hj with ⟨e2, _⟩ | ⟨_, kd, b, e1, h1, h2, h3, h4⟩
  · exact absurd e2 h0
  · refine ⟨g.t.P.getD j 0, kd, b, by constructor <;> omega, T9.getF_nat _ _ hj, h0, ?_, h4, h1, h2, h3, e1⟩
    exact (h.sto.mpage hj h0).2.1
end Go.Proofs.YtjbfooaembpdfaaGreatDoor.J10

/-
  The law's look at a pager's pages (state): its walk, over this seat's translation; conditions: the pager shows its pages, and has no transaction.
-/
namespace Go.Proofs.YtjbfooaembpdfaaGreatDoor.J10
open Go.RowKit Go.Maps Go.ChangeMaps
def StateG (w : World) (base : Nat) (k : Bk) (g : Pg) (V : Pgs) (N : Nat) (e : Ending) (w' : World) : Prop :=
  ∃ b m' k' q, e = .returned (.tuple #[.map (some b), .bool true]) ∧ w.heap.size ≤ b ∧ m' ≤ 960 ∧ Mp w' b m' V ∧ k'.p = k.p ∧ k'.dp = k.dp ∧ q = (pagesN g.t.P).length ∧ PgV w' base k' { g with d := idD g.d q, busy := false } ∧ (idD g.d q).Ok (N + q) ∧ (∀ i, footG k' i → footG k i) ∧ D5.Kp (footG k) w w'
theorem int_cell {w : World} {lo n cap : Nat} {a : Addr} {P : List Nat} (o : w.ownsRow lo 3 1 (.slice (some a) n cap) n (intsC P)) {j m : Nat} (hj : P[j]? = some m) : w.cell? (a.add j) = some (.int .i64 (m : Nat)) := by
  obtain ⟨ao, cap', ev, _, _, _, h5⟩ := Sl.of_owns o
  injection ev with ev1 ev2 ev3
  exact h5 a ev1.symm j _ (by unfold intsC; rw [List.getElem?_map, hj]; rfl)
set_option maxRecDepth 100000 in
set_option maxHeartbeats 4000000 in
theorem state_any {w : World} {base N : Nat} {k : Bk} {g : Pg} {V : Pgs} (h : PgV w base k g) (s : Shows g V N) (hbusy : g.busy = false) (hN : N ≤ 3900) (hb : base ≤ w.heap.size) :
    Calls Tryz.prog 16 #[.pointer (some ⟨k.p, 0, none⟩)] w (StateG w base k g V N) := by
  unfold StateG
  have hmm := @run_makeMap Tryz.prog
  have HBg := Lib.hid (begin_any h s.dead hbusy hb)
  unfold BeginGot at HBg
  have H := Lib.hid h
  have S := Lib.hid s
  have hdead := s.dead
  have HD := Lib.hid hdead
  clear h s hdead
  go_enter Tryz.func16, Tryz.ntmps16
  go_wp2_with (first
    | (go_at_call 10; (with_reducible refine HBg.out.mono ?_); rintro e w1 ⟨y, rfl, h1, k1, lx, ltb, lmb, lbm⟩; have hP := txPages_any (h1.keep0 (gb_alloc w1 (.map #[] 0) none)) HD.out; unfold T9.NtsGot at hP; rw [World.size_alloc] at hP; have hP := Lib.hid hP; have h1 := Lib.hid h1; have k1 := Lib.hid k1)
    | (go_at_call 25; (with_reducible refine hP.out.mono ?_); rintro e w2 ⟨v, rfl, o2, g2⟩; obtain ⟨ao, cap, rfl, -⟩ := Sl.of_owns o2; have o2 := Lib.hid o2; have g2 := Lib.hid g2)
    | fail)
  have gm := gb_alloc w1 (.map #[] 0) none
  have g02 := gb_trans gm g2.out
  have hi0 : idD g.d 0 = g.d := idD_zero S.out.idle
  have lt1 := h1.out.lt
  have hM0 : Mp w2 w1.heap.size 0 (readF ((pagesN g.t.P).take 0) V) := by
    rw [List.take_zero, readF_nil]; exact (Mp.made w1).keep0 g2.out
  have hT2 : TxV w2 base k y 0 { g with d := idD g.d 0, busy := true } ⟨g.t, g.m, fun _ => none⟩ := by rw [hi0]; exact h1.out.keep0 g02
  have hK2 : D5.Kp (footG k) w w2 := (k1.out.mono (fun i (e : i = k.p) => .inl e)).step0 g02
  have hok0 : (idD g.d 0).Ok (N + 0) := by rw [hi0]; exact S.out.ok
  have HM0 := Lib.hid hM0
  have HT2 := Lib.hid hT2
  have HK2 := Lib.hid hK2
  have HO0 := Lib.hid hok0
  have HLen := Lib.hid (pagesTo_length g.t.P 960)
  have HLt := Lib.hid lt1
  have zk := k1.out.size
  clear hM0 hT2 hK2 hok0 gm g02 lt1
  generalize hPg : pagesN g.t.P = P at *
  obtain ⟨L, hL⟩ : ∃ L, P.length = L := ⟨_, rfl⟩
  have HL := Lib.hid hL
  have HPg := Lib.hid hPg
  rw [hL] at o2 ⊢
  clear hL hPg
  go_loopw [8] (fun i wr => ∃ (j : Nat) (k1 : Bk), j ≤ L ∧ i = .int .i64 (j : Nat) ∧ k1.p = k.p ∧ k1.dp = k.dp ∧ TxV wr base k1 y 0 { g with d := idD g.d j, busy := true } ⟨g.t, g.m, fun _ => none⟩ ∧ (idD g.d j).Ok (N + j) ∧ Mp wr w1.heap.size j (readF (P.take j) V) ∧ (∀ i, footG k1 i → footG k i) ∧ wr.ownsRow (w1.heap.size + 1) 3 1 (.slice ao L cap) L (intsC P) ∧ D5.Kp (footG k) w wr) (fun i _ => L - (intOf i).toNat)
  case atStart => exact ⟨0, k, by omega, rfl, rfl, rfl, HT2.out, HO0.out, HM0.out, fun _ h => h, o2.out, HK2.out⟩
  case round =>
    have hL9 : L ≤ 960 := by have := HLen.out; have e := HL.out; have e2 := HPg.out; unfold pagesN at e2; rw [e2, e] at this; exact this
    obtain ⟨j, k2, hj, rfl, ek, ekd, hT, hOk, hM, hf, hrow, hK⟩ := hrel
    by_cases hlt : j < L
    · obtain ⟨n, hn⟩ : ∃ n, P[j]? = some n := ⟨P[j]'(by rw [HL.out]; exact hlt), List.getElem?_eq_getElem _⟩
      obtain ⟨ao', cap', ev, _, _, h4, h5⟩ := Sl.of_owns hrow
      injection ev with ev1 ev2 ev3
      subst ev1
      subst ev3
      cases ao with
      | none => have := (h4 rfl).1; omega
      | some a =>
        have hcell : wr.cell? (a.add j) = some (.int .i64 (n : Nat)) := h5 a rfl j _ (by unfold intsC; rw [List.getElem?_map, hn]; rfl)
        obtain ⟨m, kd, b, hp, hg, h0, hm, hs, q1, q2, q3, hv⟩ := shows_page S.out (i := j) (n := n) (by rw [HPg.out]; exact hn)
        have hRd := txRead_any hT HD.out ⟨rfl, S.out.idle.2.1, rfl⟩ hOk (by have := HLen.out; have e := HL.out; have e2 := HPg.out; unfold pagesN at e2; rw [e2, e] at this; omega) hp rfl hg h0 hm hs q1 q2 q3
        have HRd := Lib.hid hRd
        have HM := Lib.hid hM
        have HRow := Lib.hid hrow
        have HK := Lib.hid hK
        have HV := Lib.hid hv
        have HN := Lib.hid hn
        have HF := Lib.hid hf
        have HP := Lib.hid hp
        have HOk := Lib.hid hOk
        have HT := Lib.hid hT
        clear hRd hM hrow hK hv hn hf hOk hT hg h0 hm hs q1 q2 q3 h4 h5
        go_wp2_with (first
          | (go_at_call 21; (with_reducible refine HRd.out.mono ?_); rintro e w3 ⟨rfl, k3, e1, e2, e3, e4, h3, f3, kp3⟩; have hrow3 := kp3.row HRow.out (fun i hi hq => (by have q1 := (own_lt HRow.out i hi).1; have q2 := HLt.out i (.inl (HF.out i (.inr (.inl hq)))); omega)); have hcell3 := int_cell hrow3 HN.out; have hM3 := HM.out.kp kp3 (fun hq => (by have q2 := HLt.out _ (.inl (HF.out _ (.inr (.inl hq)))); omega)); have hrow3 := Lib.hid hrow3; have hM3 := Lib.hid hM3; have h3 := Lib.hid h3; have kp3 := Lib.hid kp3)
          | (refine wpList_mput rfl (.tmp 44) (.tmp 48) (.tmp 51) rfl pairP rfl hM3.out (by omega) (n : Nat) HP.out (kd, b) rfl rfl ?_; intro w4 hM4 g4; have hM4 := Lib.hid hM4; have g4 := Lib.hid g4)
          | fail)
        go_roundw
        case rel =>
          have hD : D5.opS (idD g.d j) true = idD g.d (j + 1) := at_S_go (fun e => by have := e.1; rw [S.out.idle.2.1] at this; cases this)
          have hf3 : ∀ i, footG k3 i → footG k i := fun i hi => HF.out i ((foot_of (F := fun _ => False) e1 e2 e3 (fun i h => .inl (f3 i h)) i hi).resolve_right id)
          have hx3 : ∀ i, footX k3 y i → i < w1.heap.size := fun i hi => by
            rcases hi with hi | hi
            · exact HLt.out i (.inl (hf3 i hi))
            · exact HLt.out i (.inr hi)
          have t4 := h3.out.past g4.out hx3 (Nat.le_refl _)
          have ok4 := HOk.out.op true
          rw [hD] at t4 ok4
          have hm4 := hM4.out
          have ht : P.take (j + 1) = P.take j ++ [n] := by rw [List.take_add_one, HN.out]; rfl
          rw [← readF_snoc _ _ HV.out, ← ht] at hm4
          refine ⟨j + 1, k3, by omega, by go_num, e1.trans ek, e4.trans ekd, t4, ok4, hm4, hf3, ?_, ?_⟩
          · exact (D5.Kp.of (F := fun i => i = w1.heap.size) g4.out (fun i e => by cases e; rfl)).row hrow3.out (fun i hi e => by have := (own_lt HRow.out i hi).1; omega)
          · exact (kp_in HK.out kp3.out (fun i hi => .inl (HF.out i (.inr (.inl hi))))).step g4.out (fun i e => by cases e; exact .inr zk)
        case measure => simp [intOf]; omega
    · obtain rfl : j = L := by omega
      have hall : P.take j = P := List.take_of_length_le (by rw [HL.out]; exact Nat.le_refl _)
      have hMV : Mp wr w1.heap.size j V := by
        rw [hall, ← HPg.out, readF_all S.out] at hM
        exact hM
      have HMV := Lib.hid hMV
      have HT := Lib.hid hT
      have HOk := Lib.hid hOk
      have HF := Lib.hid hf
      have HK := Lib.hid hK
      have HAb := Lib.hid (abort_any hT)
      unfold AbortGot at HAb
      clear hMV hM hT hOk hf hK hrow hall
      go_wp2_with (first
        | (go_at_call 13; (with_reducible refine HAb.out.mono ?_); rintro e w3 ⟨rfl, h3, ho3, k3⟩; have h3 := Lib.hid h3; have k3 := Lib.hid k3)
        | fail)
      go_ret2
      exact ⟨w1.heap.size, j, k2, j, rfl, zk, hL9, HMV.out.kp k3.out (fun e => by
        rcases e with e | e
        · have := HLt.out _ (.inl (HF.out _ (.inl rfl))); omega
        · have := HLt.out _ (.inr (.inl rfl)); omega), ek, ekd, (by rw [HPg.out, HL.out]), h3.out, HOk.out, HF.out, kp_in HK.out k3.out (fun i hi => by
        rcases hi with rfl | rfl
        · exact .inl (HF.out _ (.inl rfl))
        · exact .inr lx)⟩
end Go.Proofs.YtjbfooaembpdfaaGreatDoor.J10

/-
  The law's acts upon a transaction (lay): how acts lie in memory, and the calls' answers one by one; over this seat's translation; conditions: those that each law states.
-/
namespace Go.Proofs.YtjbfooaembpdfaaGreatDoor.J10
open Go.RowKit Go.Maps
/-- An act. -/
structure Ac where
  what : UInt8
  page : UInt8
  letter : UInt8
  long : UInt8
def acC1 (x : Ac) : List Value := [.int .u8 (x.what.toNat : Nat), .int .u8 (x.page.toNat : Nat), .int .u8 (x.letter.toNat : Nat), .int .u8 (x.long.toNat : Nat)]
def acsC (l : List Ac) : List Value := l.flatMap acC1
theorem acsC_length : ∀ l : List Ac, (acsC l).length = l.length * 4
  | [] => rfl
  | x :: l => by
    have ih := acsC_length l
    unfold acsC at ih ⊢
    rw [List.flatMap_cons, List.length_append, ih]
    show 4 + _ = (l.length + 1) * 4
    omega
theorem acsC_at : ∀ (l : List Ac) (k : Nat) (hk : k < l.length) (j : Nat) (_ : j < 4), (acsC l)[k * 4 + j]? = (acC1 l[k])[j]?
  | [], _, hk, _, _ => by simp at hk
  | x :: l, 0, _, j, hj => by
    unfold acsC
    rw [List.flatMap_cons, Nat.zero_mul, Nat.zero_add, List.getElem?_append_left (by show j < 4; exact hj)]
    rfl
  | x :: l, k + 1, hk, j, hj => by
    have ih := acsC_at l k (by simpa using hk) j hj
    unfold acsC at ih ⊢
    rw [List.flatMap_cons, List.getElem?_append_right (by show 4 ≤ _; omega)]
    rw [show (k + 1) * 4 + j - (acC1 x).length = k * 4 + j by show _ - 4 = _; omega, ih]
    rfl
/-- Acts in memory, as a slice. -/
def Acs (w : World) (v : Value) (l : List Ac) : Prop := Sl 4 w v l.length (acsC l)
theorem gb_kp {F : Nat → Prop} {w0 w w' : World} (g : w0.grownBy w none) (k : D5.Kp F w w') (hF : ∀ i, F i → w0.heap.size ≤ i) : w0.grownBy w' none :=
  ((D5.Kp.of0 (F := fun i => w0.heap.size ≤ i) g).trans (k.mono hF)).gb fun _ h => .inr h
section
variable {w : World} {base n N : Nat} {k : Bk} {y : Bx} {g : Pg} {T : Tr} {V V' : Pgs}
theorem new_is (h : TxV w base k y n g T) (o : Over g T V V' N) (hT : M6.Tab w) (hn : n < 1000000) {kd : Nat} {b : ByteArray} (h1 : 1 ≤ kd) (h2 : kd ≤ 254) (h3 : b.size ≤ 240) (hk : M6.nextF T.m 0 false < T.m.length) :
    Calls Tryz.prog 22 #[.pointer (some ⟨y.x, 0, none⟩), .int .i64 (kd : Nat), .string b] w fun e w' =>
      ∃ p : Int, e = .returned (.tuple #[.int .i64 p, .int .i64 0]) ∧ V' p = none ∧ 1 ≤ p ∧ p ≤ 100 ∧ Chg w base k y n g V N (upd V' p (kd, b)) w' ∧ ∀ q : Int, 1 ≤ q → q < p → V' q ≠ none :=
  (ov_new h o hT hn h1 h2 h3).mono fun e w' hh => by
    rcases hh with ⟨p, e1, e2, e3, e4, e5, _, e6⟩ | ⟨_, _, e3⟩
    · exact ⟨p, e1, e2, e3, e4, e5, e6⟩
    · exact absurd hk e3
theorem new_non (h : TxV w base k y n g T) (o : Over g T V V' N) (hT : M6.Tab w) (hn : n < 1000000) {kd : Nat} {b : ByteArray} (h1 : 1 ≤ kd) (h2 : kd ≤ 254) (h3 : b.size ≤ 240) (hk : ¬ M6.nextF T.m 0 false < T.m.length) :
    Calls Tryz.prog 22 #[.pointer (some ⟨y.x, 0, none⟩), .int .i64 (kd : Nat), .string b] w fun e w' =>
      e = .returned (.tuple #[.int .i64 0, .int .i64 11]) ∧ Chg w base k y n g V N V' w' :=
  (ov_new h o hT hn h1 h2 h3).mono fun e w' hh => by
    rcases hh with ⟨p, _, _, _, _, _, e6, _⟩ | ⟨e1, e2, _⟩
    · exact absurd e6 hk
    · exact ⟨e1, e2⟩
theorem write_is (h : TxV w base k y n g T) (o : Over g T V V' N) (hT : M6.Tab w) (hn : n < 1000000) (p : Int) {kd : Nat} {b : ByteArray} (h1 : 1 ≤ kd) (h2 : kd ≤ 254) (h3 : b.size ≤ 240) (hp : V' p ≠ none) :
    Calls Tryz.prog 23 #[.pointer (some ⟨y.x, 0, none⟩), .int .i64 p, .int .i64 (kd : Nat), .string b] w fun e w' =>
      (e = .returned (.int .i64 0) ∧ Chg w base k y n g V N (upd V' p (kd, b)) w') ∨ (e = .returned (.int .i64 11) ∧ Chg w base k y n g V N V' w') :=
  (ov_write h o hT hn p h1 h2 h3).mono fun e w' hh => by
    rcases hh with ⟨_, e1, e2⟩ | ⟨_, e1, e2, _⟩ | ⟨e0, _, _⟩
    · exact .inl ⟨e1, e2⟩
    · exact .inr ⟨e1, e2⟩
    · exact absurd e0 hp
theorem write_room (h : TxV w base k y n g T) (o : Over g T V V' N) (hT : M6.Tab w) (hn : n < 1000000) (p : Int) {kd : Nat} {b : ByteArray} (h1 : 1 ≤ kd) (h2 : kd ≤ 254) (h3 : b.size ≤ 240) (hp : V' p ≠ none) (hk : M6.nextF T.m 0 false < T.m.length) :
    Calls Tryz.prog 23 #[.pointer (some ⟨y.x, 0, none⟩), .int .i64 p, .int .i64 (kd : Nat), .string b] w fun e w' =>
      e = .returned (.int .i64 0) ∧ Chg w base k y n g V N (upd V' p (kd, b)) w' :=
  (ov_write h o hT hn p h1 h2 h3).mono fun e w' hh => by
    rcases hh with ⟨_, e1, e2⟩ | ⟨_, _, _, e3⟩ | ⟨e0, _, _⟩
    · exact ⟨e1, e2⟩
    · exact absurd hk e3
    · exact absurd e0 hp
theorem write_non (h : TxV w base k y n g T) (o : Over g T V V' N) (hT : M6.Tab w) (hn : n < 1000000) (p : Int) {kd : Nat} {b : ByteArray} (h1 : 1 ≤ kd) (h2 : kd ≤ 254) (h3 : b.size ≤ 240) (hp : V' p = none) :
    Calls Tryz.prog 23 #[.pointer (some ⟨y.x, 0, none⟩), .int .i64 p, .int .i64 (kd : Nat), .string b] w fun e w' =>
      e = .returned (.int .i64 13) ∧ Chg w base k y n g V N V' w' :=
  (ov_write h o hT hn p h1 h2 h3).mono fun e w' hh => by
    rcases hh with ⟨e0, _, _⟩ | ⟨e0, _, _⟩ | ⟨_, e1, e2⟩
    · exact absurd hp e0
    · exact absurd hp e0
    · exact ⟨e1, e2⟩
theorem drop_is (h : TxV w base k y n g T) (o : Over g T V V' N) (p : Int) (hp : V' p ≠ none) :
    Calls Tryz.prog 24 #[.pointer (some ⟨y.x, 0, none⟩), .int .i64 p] w fun e w' => e = .returned (.int .i64 0) ∧ Chg w base k y n g V N (del V' p) w' :=
  (ov_drop h o p).mono fun e w' hh => by
    rcases hh with ⟨_, e1, e2⟩ | ⟨e0, _, _⟩
    · exact ⟨e1, e2⟩
    · exact absurd e0 hp
theorem drop_non (h : TxV w base k y n g T) (o : Over g T V V' N) (p : Int) (hp : V' p = none) :
    Calls Tryz.prog 24 #[.pointer (some ⟨y.x, 0, none⟩), .int .i64 p] w fun e w' => e = .returned (.int .i64 13) ∧ Chg w base k y n g V N V' w' :=
  (ov_drop h o p).mono fun e w' hh => by
    rcases hh with ⟨e0, _, _⟩ | ⟨_, e1, e2⟩
    · exact absurd hp e0
    · exact ⟨e1, e2⟩
end
theorem del_none {f : Pgs} {p : Int} (h : f p = none) : del f p = f := by
  funext q
  unfold del
  by_cases e : q = p
  · rw [if_pos e, e, h]
  · rw [if_neg e]
/-- What stands in a map, and whether anything does. -/
theorem Mp.look {w : World} {b n : Nat} {f : Pgs} {t e : TypeId} (h : Mp w b n f) (T : PairT t e) {i : Int} (hi : In64 i) :
    ∃ (q : Nat) (s : ByteArray) (is : Bool), (is = true ↔ f i ≠ none) ∧ (Instr.lookup t (.map (some b)) (.int .i64 i) true).run Tryz.prog w = .ok (.tuple #[.agg #[.int .i64 (q : Nat), .string s], .bool is]) w := by
  cases hx : f i with
  | none => exact ⟨0, noE, false, by simp, Mp.lookNo h T hi hx⟩
  | some x => exact ⟨x.1, x.2, true, by simp, Mp.lookYes h T hi hx⟩
end Go.Proofs.YtjbfooaembpdfaaGreatDoor.J10

/-
  The law's acts upon a transaction (lay): its walk, over this seat's translation; conditions: the transaction stands over a store, the state is a map that tells its pages, the acts lie in memory that nothing changes.
-/
namespace Go.Proofs.YtjbfooaembpdfaaGreatDoor.J10
open Go.RowKit Go.Maps
/-- A transaction and a state beside it. -/
structure Md (w : World) (base : Nat) (k : Bk) (y : Bx) (g : Pg) (V : Pgs) (N b n m : Nat) (T : Tr) (Vt Vm : Pgs) (u : World) : Prop where
  tx : TxV u base k y n g T
  ov : Over g T V Vt N
  mp : Mp u b m Vm
  kp : D5.Kp (fun i => footT y i ∨ i = b) w u
section
variable {w u u' : World} {base N b n m : Nat} {k : Bk} {y : Bx} {g : Pg} {T : Tr} {V Vt Vm : Pgs}
theorem footT_X {i : Nat} (h : footT y i) : footX k y i := by
  rcases h with h | h | h
  · exact .inr (.inr (.inl h))
  · exact .inr (.inr (.inr (.inl h)))
  · exact .inr (.inr (.inr (.inr h)))
theorem Md.keep0 (h : Md w base k y g V N b n m T Vt Vm u) (e : u.grownBy u' none) : Md w base k y g V N b n m T Vt Vm u' := ⟨h.tx.keep0 e, h.ov, h.mp.keep0 e, h.kp.step0 e⟩
theorem Md.chg (h : Md w base k y g V N b n m T Vt Vm u) (hb : ¬ footX k y b) {V3 : Pgs} (c : Chg u base k y n g V N V3 u') : ∃ n' T', n' ≤ n + 1 ∧ Md w base k y g V N b n' m T' V3 Vm u' := by
  obtain ⟨n', T', h1, h2, h3, h4⟩ := c
  exact ⟨n', T', h1, h2, h3, h.mp.kp h4 (fun e => hb (footT_X e)), h.kp.trans (h4.mono fun i hi => .inl hi)⟩
theorem Md.put (h : Md w base k y g V N b n m T Vt Vm u) (hb : ¬ footX k y b) {m' : Nat} {V3 : Pgs} (hm : Mp u' b m' V3) (e : u.grownBy u' (some b)) : Md w base k y g V N b n m' T Vt V3 u' :=
  ⟨h.tx.frame (kp_one e) (fun i hi e => hb (e ▸ hi)), h.ov, hm, h.kp.trans ((kp_one e).mono fun i hi => .inr hi)⟩
theorem Md.tab (h : Md w base k y g V N b n m T Vt Vm u) (hT : M6.Tab w) (h5 : 5 ≤ base) (b5 : 5 ≤ b) : M6.Tab u := tab_kp hT h.kp (fun i hi => by
  rcases hi with hi | rfl
  · exact Nat.le_trans h5 (h.tx.ge i (footT_X hi))
  · exact b5)
theorem Md.gb {w0 : World} (h : Md w base k y g V N b n m T Vt Vm u) (g0 : w0.grownBy w none) (hb : w0.heap.size ≤ base) (hb0 : w0.heap.size ≤ b) : w0.grownBy u none := gb_kp g0 h.kp (fun i hi => by
  rcases hi with hi | rfl
  · exact Nat.le_trans hb (h.tx.ge i (footT_X hi))
  · exact hb0)
end
/-- Pages that are low. -/
def Low (V : Pgs) : Prop := ∀ p, V p ≠ none → p ≤ 100
theorem low_upd {V : Pgs} (h : Low V) {p : Int} (hp : p ≤ 100) (x : Nat × ByteArray) : Low (upd V p x) := fun q hq => by
  unfold upd at hq
  by_cases e : q = p
  · rw [e]; exact hp
  · rw [if_neg e] at hq; exact h q hq
theorem low_del {V : Pgs} (h : Low V) (p : Int) : Low (del V p) := fun q hq => by
  unfold del at hq
  by_cases e : q = p
  · rw [if_pos e] at hq; exact absurd rfl hq
  · rw [if_neg e] at hq; exact h q hq
def LayD (w : World) (base : Nat) (k : Bk) (y : Bx) (g : Pg) (V : Pgs) (N b n m j : Nat) (u : World) : Prop := ∃ n' m' T' V2, n' ≤ n + j ∧ m' ≤ m + j ∧ Md w base k y g V N b n' m' T' V2 V2 u ∧ Low V2
set_option maxRecDepth 100000 in
set_option maxHeartbeats 8000000 in
theorem lawLay_any {w0 w : World} {base n N b m : Nat} {k : Bk} {y : Bx} {g : Pg} {T : Tr} {V V' : Pgs} {v : Value} {l : List Ac} (h : TxV w base k y n g T) (o : Over g T V V' N) (hT : M6.Tab w) (hn : n < 900000) (hM : Mp w b m V') (hm : m < 900000) (hb : ¬ footX k y b) (hlo : Low V')
    (hb0 : w0.heap.size ≤ b) (hbase : w0.heap.size ≤ base) (h5 : 5 ≤ w0.heap.size) (g0 : w0.grownBy w none) (hA : Acs w0 v l) :
    Calls Tryz.prog 12 #[.pointer (some ⟨y.x, 0, none⟩), v, .map (some b)] w fun e w' => e = .returned (.bool true) ∧ LayD w base k y g V N b n m 30 w' := by
  obtain ⟨ao, cap, rfl, _, _, hna, hxa⟩ := hA
  have HX := Lib.hid (And.intro hna hxa)
  have HT := Lib.hid hT
  have HG0 := Lib.hid g0
  have HB := Lib.hid hb
  have HD0 := Lib.hid (show LayD w base k y g V N b n m 0 w from ⟨n, m, T, V', by omega, by omega, ⟨h, o, hM, D5.Kp.refl _ _⟩, hlo⟩)
  clear hna hxa hT g0 h o hM hb hlo
  obtain ⟨L, hL⟩ : ∃ L, l.length = L := ⟨_, rfl⟩
  have HL := Lib.hid hL
  rw [hL]
  clear hL
  go_enter Tryz.func12, Tryz.ntmps12
  go_wp2
  go_loopw [7] (fun i wr => ∃ j : Nat, j ≤ L ∧ j ≤ 30 ∧ i = .int .i64 (j : Nat) ∧ LayD w base k y g V N b n m j wr) (fun i _ => L - (intOf i).toNat)
  case atStart => exact ⟨0, by omega, by omega, rfl, HD0.out⟩
  case round =>
    obtain ⟨j, hj, hj30, rfl, n', m', T', V2, hn', hm', hMd, hLo⟩ := hrel
    have HM := Lib.hid hMd
    have HLo := Lib.hid hLo
    clear hMd HD0 hLo
    by_cases hin : j < L ∧ j < 30
    · obtain ⟨hlt, h30⟩ := hin
      cases ao with
      | none => have := (HX.out.1 rfl).1; rw [HL.out] at this; omega
      | some x =>
        have hlt' : j < l.length := by rw [HL.out]; exact hlt
        have hg := HM.out.gb HG0.out hbase hb0
        have c0 := hg.cell (HX.out.2 x rfl _ _ (acsC_at l j hlt' 0 (by omega))) (by simp)
        have c1 := hg.cell (HX.out.2 x rfl _ _ (acsC_at l j hlt' 1 (by omega))) (by simp)
        have c2 := hg.cell (HX.out.2 x rfl _ _ (acsC_at l j hlt' 2 (by omega))) (by simp)
        have c3 := hg.cell (HX.out.2 x rfl _ _ (acsC_at l j hlt' 3 (by omega))) (by simp)
        rw [Nat.add_zero] at c0
        rw [show x.add (j * 4 + 1) = (x.add (j * 4)).add 1 from (add_add _ _ _).symm] at c1
        rw [show x.add (j * 4 + 2) = (x.add (j * 4)).add 2 from (add_add _ _ _).symm] at c2
        rw [show x.add (j * 4 + 3) = (x.add (j * 4)).add 3 from (add_add _ _ _).symm] at c3
        replace c0 : wr.cell? (x.add (j * 4)) = some (.int .u8 (l[j].what.toNat : Nat)) := c0
        replace c1 : wr.cell? ⟨(x.add (j * 4)).block, (x.add (j * 4)).off + 1, none⟩ = some (.int .u8 (l[j].page.toNat : Nat)) := c1
        replace c2 : wr.cell? ⟨(x.add (j * 4)).block, (x.add (j * 4)).off + 2, none⟩ = some (.int .u8 (l[j].letter.toNat : Nat)) := c2
        replace c3 : wr.cell? ⟨(x.add (j * 4)).block, (x.add (j * 4)).off + 3, none⟩ = some (.int .u8 (l[j].long.toNat : Nat)) := c3
        generalize l[j].what = wh at c0
        generalize l[j].page = pg at c1
        generalize l[j].letter = le at c2
        generalize l[j].long = lo at c3
        clear hlt' hg
        obtain ⟨kd, hkd⟩ : ∃ kd : Nat, kd = 1 + le.toNat % 254 := ⟨_, rfl⟩
        have hk1 : 1 ≤ kd := by omega
        have hk2 : kd ≤ 254 := by omega
        have lel := le.toNat_lt
        have pgl := pg.toNat_lt
        have whl := wh.toNat_lt
        have w1 : IntKind.i64.wrap ((le.toNat : Nat) : Int) = ((le.toNat : Nat) : Int) := IntWalk.i64_in _ (by omega)
        have w2 : 1 + ((le.toNat : Nat) : Int) % 254 = ((kd : Nat) : Int) := by omega
        have w2t : 1 + ((le.toNat : Nat) : Int).tmod 254 = ((kd : Nat) : Int) := by rw [Int.tmod_eq_emod_of_nonneg (by omega)]; omega
        have w3 : IntKind.i64.wrap ((kd : Nat) : Int) = ((kd : Nat) : Int) := IntWalk.i64_in _ (by omega)
        obtain ⟨p, hp⟩ : ∃ p : Int, p = ((pg.toNat : Nat) : Int) % 70 - 1 := ⟨_, rfl⟩
        have w4 : IntKind.i64.wrap ((pg.toNat : Nat) : Int) = ((pg.toNat : Nat) : Int) := IntWalk.i64_in _ (by omega)
        have w5 : ((pg.toNat : Nat) : Int) % 70 - 1 = p := hp.symm
        have w5t : ((pg.toNat : Nat) : Int).tmod 70 - 1 = p := by rw [Int.tmod_eq_emod_of_nonneg (by omega)]; omega
        have hp1 : -1 ≤ p := by omega
        have hp2 : p ≤ 68 := by omega
        have w6 : IntKind.i64.wrap p = p := IntWalk.i64_in _ (by omega)
        clear hp hkd lel pgl
        go_wp2
        have hX6 := Blk.mk wr 87 #[.int .u8 (wh.toNat : Nat), .int .u8 (pg.toNat : Nat), .int .u8 (le.toNat : Nat), .int .u8 (lo.toNat : Nat)]
        replace HM := Lib.hid (HM.out.keep0 (gb_alloc wr (.cells #[.int .u8 (wh.toNat : Nat), .int .u8 (pg.toNat : Nat), .int .u8 (le.toNat : Nat), .int .u8 (lo.toNat : Nat)] 87) none))
        generalize wr.alloc (.cells #[.int .u8 (wh.toNat : Nat), .int .u8 (pg.toNat : Nat), .int .u8 (le.toNat : Nat), .int .u8 (lo.toNat : Nat)] 87) = u at hX6 HM ⊢
        have HX6 := Lib.hid hX6
        have hbd := body_any wh pg le lo
        unfold actV at hbd
        have HBd := Lib.hid hbd
        clear hX6 c0 c1 c2 c3 hbd
        have hbx := HX6.out.keep0 (gb_drew u none)
        refine wp_region_noPanic ?_
        refine wp_region_held_drew (S := fun w' => Blk w' wr.heap.size 87 #[.int .u8 (wh.toNat : Nat), .int .u8 (pg.toNat : Nat), .int .u8 (le.toNat : Nat), .int .u8 (lo.toNat : Nat)]) (by kernel_rfl) hbx (fun hHeld => ?_)
        refine wpAnyH_take (i := 0) (v := ?_) (List.getElem?_toArray.trans rfl) (by kernel_rfl) (by kernel_rfl) (by kernel_rfl) (fun _ _ _ h => h) (Or.inl ⟨by rfl, ?_⟩) hHeld ?_
        rotate_left
        · intro w' hSw; have cx0 := Blk.cell (show Blk w' wr.heap.size 87 #[.int .u8 (wh.toNat : Nat), .int .u8 (pg.toNat : Nat), .int .u8 (le.toNat : Nat), .int .u8 (lo.toNat : Nat)] from hSw) 0 rfl; have cx1 := Blk.cell (show Blk w' wr.heap.size 87 #[.int .u8 (wh.toNat : Nat), .int .u8 (pg.toNat : Nat), .int .u8 (le.toNat : Nat), .int .u8 (lo.toNat : Nat)] from hSw) 1 rfl; have cx2 := Blk.cell (show Blk w' wr.heap.size 87 #[.int .u8 (wh.toNat : Nat), .int .u8 (pg.toNat : Nat), .int .u8 (le.toNat : Nat), .int .u8 (lo.toNat : Nat)] from hSw) 2 rfl; have cx3 := Blk.cell (show Blk w' wr.heap.size 87 #[.int .u8 (wh.toNat : Nat), .int .u8 (pg.toNat : Nat), .int .u8 (le.toNat : Nat), .int .u8 (lo.toNat : Nat)] from hSw) 3 rfl; go_simp; try with_reducible rfl
        try simp only [Act.put, List.setIfInBounds_toArray, List.set_cons_zero, List.set_cons_succ]
        refine wpAnyH_take (i := 1) (v := ?_) (List.getElem?_toArray.trans rfl) (by kernel_rfl) (by kernel_rfl) (by kernel_rfl) (fun _ _ _ h => h) (Or.inl ⟨by rfl, ?_⟩) hHeld ?_
        rotate_left
        · intro w' hSw; have cx0 := Blk.cell (show Blk w' wr.heap.size 87 #[.int .u8 (wh.toNat : Nat), .int .u8 (pg.toNat : Nat), .int .u8 (le.toNat : Nat), .int .u8 (lo.toNat : Nat)] from hSw) 0 rfl; have cx1 := Blk.cell (show Blk w' wr.heap.size 87 #[.int .u8 (wh.toNat : Nat), .int .u8 (pg.toNat : Nat), .int .u8 (le.toNat : Nat), .int .u8 (lo.toNat : Nat)] from hSw) 1 rfl; have cx2 := Blk.cell (show Blk w' wr.heap.size 87 #[.int .u8 (wh.toNat : Nat), .int .u8 (pg.toNat : Nat), .int .u8 (le.toNat : Nat), .int .u8 (lo.toNat : Nat)] from hSw) 2 rfl; have cx3 := Blk.cell (show Blk w' wr.heap.size 87 #[.int .u8 (wh.toNat : Nat), .int .u8 (pg.toNat : Nat), .int .u8 (le.toNat : Nat), .int .u8 (lo.toNat : Nat)] from hSw) 3 rfl; go_simp; try with_reducible rfl
        try simp only [Act.put, List.setIfInBounds_toArray, List.set_cons_zero, List.set_cons_succ]
        refine wpAnyH_take (i := 2) (v := ?_) (List.getElem?_toArray.trans rfl) (by kernel_rfl) (by kernel_rfl) (by kernel_rfl) (fun _ _ _ h => h) (Or.inl ⟨by rfl, ?_⟩) hHeld ?_
        rotate_left
        · intro w' hSw; have cx0 := Blk.cell (show Blk w' wr.heap.size 87 #[.int .u8 (wh.toNat : Nat), .int .u8 (pg.toNat : Nat), .int .u8 (le.toNat : Nat), .int .u8 (lo.toNat : Nat)] from hSw) 0 rfl; have cx1 := Blk.cell (show Blk w' wr.heap.size 87 #[.int .u8 (wh.toNat : Nat), .int .u8 (pg.toNat : Nat), .int .u8 (le.toNat : Nat), .int .u8 (lo.toNat : Nat)] from hSw) 1 rfl; have cx2 := Blk.cell (show Blk w' wr.heap.size 87 #[.int .u8 (wh.toNat : Nat), .int .u8 (pg.toNat : Nat), .int .u8 (le.toNat : Nat), .int .u8 (lo.toNat : Nat)] from hSw) 2 rfl; have cx3 := Blk.cell (show Blk w' wr.heap.size 87 #[.int .u8 (wh.toNat : Nat), .int .u8 (pg.toNat : Nat), .int .u8 (le.toNat : Nat), .int .u8 (lo.toNat : Nat)] from hSw) 3 rfl; go_simp; try with_reducible rfl
        try simp only [Act.put, List.setIfInBounds_toArray, List.set_cons_zero, List.set_cons_succ]
        refine wpAnyH_take (i := 3) (v := ?_) (List.getElem?_toArray.trans rfl) (by kernel_rfl) (by kernel_rfl) (by kernel_rfl) (fun _ _ _ h => h) (Or.inl ⟨by rfl, ?_⟩) hHeld ?_
        rotate_left
        · intro w' hSw; have cx0 := Blk.cell (show Blk w' wr.heap.size 87 #[.int .u8 (wh.toNat : Nat), .int .u8 (pg.toNat : Nat), .int .u8 (le.toNat : Nat), .int .u8 (lo.toNat : Nat)] from hSw) 0 rfl; have cx1 := Blk.cell (show Blk w' wr.heap.size 87 #[.int .u8 (wh.toNat : Nat), .int .u8 (pg.toNat : Nat), .int .u8 (le.toNat : Nat), .int .u8 (lo.toNat : Nat)] from hSw) 1 rfl; have cx2 := Blk.cell (show Blk w' wr.heap.size 87 #[.int .u8 (wh.toNat : Nat), .int .u8 (pg.toNat : Nat), .int .u8 (le.toNat : Nat), .int .u8 (lo.toNat : Nat)] from hSw) 2 rfl; have cx3 := Blk.cell (show Blk w' wr.heap.size 87 #[.int .u8 (wh.toNat : Nat), .int .u8 (pg.toNat : Nat), .int .u8 (le.toNat : Nat), .int .u8 (lo.toNat : Nat)] from hSw) 3 rfl; go_simp; try with_reducible rfl
        try simp only [Act.put, List.setIfInBounds_toArray, List.set_cons_zero, List.set_cons_succ]
        refine wpAnyH_take (i := 4) (v := ?_) (List.getElem?_toArray.trans rfl) (by kernel_rfl) (by kernel_rfl) (by kernel_rfl) (fun _ _ _ h => h) (Or.inl ⟨by rfl, ?_⟩) hHeld ?_
        rotate_left
        · intro w' hSw; have cx0 := Blk.cell (show Blk w' wr.heap.size 87 #[.int .u8 (wh.toNat : Nat), .int .u8 (pg.toNat : Nat), .int .u8 (le.toNat : Nat), .int .u8 (lo.toNat : Nat)] from hSw) 0 rfl; have cx1 := Blk.cell (show Blk w' wr.heap.size 87 #[.int .u8 (wh.toNat : Nat), .int .u8 (pg.toNat : Nat), .int .u8 (le.toNat : Nat), .int .u8 (lo.toNat : Nat)] from hSw) 1 rfl; have cx2 := Blk.cell (show Blk w' wr.heap.size 87 #[.int .u8 (wh.toNat : Nat), .int .u8 (pg.toNat : Nat), .int .u8 (le.toNat : Nat), .int .u8 (lo.toNat : Nat)] from hSw) 2 rfl; have cx3 := Blk.cell (show Blk w' wr.heap.size 87 #[.int .u8 (wh.toNat : Nat), .int .u8 (pg.toNat : Nat), .int .u8 (le.toNat : Nat), .int .u8 (lo.toNat : Nat)] from hSw) 3 rfl; go_simp; try with_reducible rfl
        try simp only [Act.put, List.setIfInBounds_toArray, List.set_cons_zero, List.set_cons_succ]
        refine wpAnyH_take (i := 5) (v := ?_) (List.getElem?_toArray.trans rfl) (by kernel_rfl) (by kernel_rfl) (by kernel_rfl) (fun _ _ _ h => h) (Or.inl ⟨by rfl, ?_⟩) hHeld ?_
        rotate_left
        · intro w' hSw; have cx0 := Blk.cell (show Blk w' wr.heap.size 87 #[.int .u8 (wh.toNat : Nat), .int .u8 (pg.toNat : Nat), .int .u8 (le.toNat : Nat), .int .u8 (lo.toNat : Nat)] from hSw) 0 rfl; have cx1 := Blk.cell (show Blk w' wr.heap.size 87 #[.int .u8 (wh.toNat : Nat), .int .u8 (pg.toNat : Nat), .int .u8 (le.toNat : Nat), .int .u8 (lo.toNat : Nat)] from hSw) 1 rfl; have cx2 := Blk.cell (show Blk w' wr.heap.size 87 #[.int .u8 (wh.toNat : Nat), .int .u8 (pg.toNat : Nat), .int .u8 (le.toNat : Nat), .int .u8 (lo.toNat : Nat)] from hSw) 2 rfl; have cx3 := Blk.cell (show Blk w' wr.heap.size 87 #[.int .u8 (wh.toNat : Nat), .int .u8 (pg.toNat : Nat), .int .u8 (le.toNat : Nat), .int .u8 (lo.toNat : Nat)] from hSw) 3 rfl; go_simp; try with_reducible rfl
        try simp only [Act.put, List.setIfInBounds_toArray, List.set_cons_zero, List.set_cons_succ]
        refine wpAnyH_ready (rs := [6]) (by kernel_rfl) (by simp) ?_
        refine AllReadyH.cons (List.getElem?_toArray.trans rfl) (fun K hK => ?_) AllReadyH.nil
        go_simp
        go_at_call 31
        (with_reducible refine (HBd.out _).mono ?_)
        rintro e u1 ⟨s, rfl, hs, g1⟩
        refine hK.out _ _ ((Blk.keep0 (show Blk _ wr.heap.size 87 #[.int .u8 (wh.toNat : Nat), .int .u8 (pg.toNat : Nat), .int .u8 (le.toNat : Nat), .int .u8 (lo.toNat : Nat)] from hHeld) g1)) (fun hHeld => ?_)
        clear hK K
        try simp only [Act.put, List.setIfInBounds_toArray, List.set_cons_zero, List.set_cons_succ]
        refine wpAnyH_take (i := 7) (v := ?_) (List.getElem?_toArray.trans rfl) (by kernel_rfl) (by kernel_rfl) (by kernel_rfl) (fun _ _ _ h => h) (Or.inl ⟨by rfl, ?_⟩) hHeld ?_
        rotate_left
        · intro w' hSw; have cx0 := Blk.cell (show Blk w' wr.heap.size 87 #[.int .u8 (wh.toNat : Nat), .int .u8 (pg.toNat : Nat), .int .u8 (le.toNat : Nat), .int .u8 (lo.toNat : Nat)] from hSw) 0 rfl; have cx1 := Blk.cell (show Blk w' wr.heap.size 87 #[.int .u8 (wh.toNat : Nat), .int .u8 (pg.toNat : Nat), .int .u8 (le.toNat : Nat), .int .u8 (lo.toNat : Nat)] from hSw) 1 rfl; have cx2 := Blk.cell (show Blk w' wr.heap.size 87 #[.int .u8 (wh.toNat : Nat), .int .u8 (pg.toNat : Nat), .int .u8 (le.toNat : Nat), .int .u8 (lo.toNat : Nat)] from hSw) 2 rfl; have cx3 := Blk.cell (show Blk w' wr.heap.size 87 #[.int .u8 (wh.toNat : Nat), .int .u8 (pg.toNat : Nat), .int .u8 (le.toNat : Nat), .int .u8 (lo.toNat : Nat)] from hSw) 3 rfl; go_simp; try with_reducible rfl
        try simp only [Act.put, List.setIfInBounds_toArray, List.set_cons_zero, List.set_cons_succ]
        refine wpAnyH_take (i := 8) (v := ?_) (List.getElem?_toArray.trans rfl) (by kernel_rfl) (by kernel_rfl) (by kernel_rfl) (fun _ _ _ h => h) (Or.inl ⟨by rfl, ?_⟩) hHeld ?_
        rotate_left
        · intro w' hSw; have cx0 := Blk.cell (show Blk w' wr.heap.size 87 #[.int .u8 (wh.toNat : Nat), .int .u8 (pg.toNat : Nat), .int .u8 (le.toNat : Nat), .int .u8 (lo.toNat : Nat)] from hSw) 0 rfl; have cx1 := Blk.cell (show Blk w' wr.heap.size 87 #[.int .u8 (wh.toNat : Nat), .int .u8 (pg.toNat : Nat), .int .u8 (le.toNat : Nat), .int .u8 (lo.toNat : Nat)] from hSw) 1 rfl; have cx2 := Blk.cell (show Blk w' wr.heap.size 87 #[.int .u8 (wh.toNat : Nat), .int .u8 (pg.toNat : Nat), .int .u8 (le.toNat : Nat), .int .u8 (lo.toNat : Nat)] from hSw) 2 rfl; have cx3 := Blk.cell (show Blk w' wr.heap.size 87 #[.int .u8 (wh.toNat : Nat), .int .u8 (pg.toNat : Nat), .int .u8 (le.toNat : Nat), .int .u8 (lo.toNat : Nat)] from hSw) 3 rfl; go_simp; try with_reducible rfl
        try simp only [Act.put, List.setIfInBounds_toArray, List.set_cons_zero, List.set_cons_succ]
        refine wpAnyH_done (by kernel_rfl) ?_ _
        refine NoPanic.normal ?_
        replace HM := Lib.hid (HM.out.keep0 (gb_trans (gb_drew u none) g1))
        have c0 := (HX6.out.keep0 (gb_trans (gb_drew u none) g1)).cell 0 rfl
        clear g1
        obtain ⟨t, ht⟩ : ∃ t, s.extract 0 (min (s.size : Int) 240).toNat = t := ⟨_, rfl⟩
        have htl : t.size ≤ 240 := by rw [← ht, ByteArray.size_extract]; omega
        have hp64 : In64 p := by constructor <;> omega
        obtain ⟨q, s0, is, hiff, hlk⟩ := Mp.look HM.out.mp pairP hp64
        have hr : wh.toNat % 4 = 0 ∨ wh.toNat % 4 = 1 ∨ wh.toNat % 4 = 2 ∨ wh.toNat % 4 = 3 := by omega
        replace c0 : u1.cell? ⟨wr.heap.size, 0, none⟩ = some (.int .u8 (wh.toNat : Nat)) := c0
        have HM2 := Lib.hid (HM.out.keep0 (gb_alloc u1 (.cells #[.int .i64 (q : Nat), .string s0] 62) none))
        have c0' : (u1.alloc (.cells #[.int .i64 (q : Nat), .string s0] 62)).cell? ⟨wr.heap.size, 0, none⟩ = some (.int .u8 (wh.toNat : Nat)) := (gb_alloc u1 _ none).cell c0 (by simp)
        have HTb := Lib.hid (HM2.out.tab HT.out (by omega) (by omega))
        clear hs HX6 HBd hHeld w1 w2 w2t w3 w4 w5 w5t w6 c0
        rcases hr with hr | hr | hr | hr
        · have hm1 : ((wh.toNat : Nat) : Int) % 4 = 0 := by omega
          clear hr whl
          by_cases hnx : M6.nextF T'.m 0 false < T'.m.length
          · have HN := Lib.hid (new_is HM2.out.tx HM2.out.ov HTb.out (by omega) hk1 hk2 htl hnx)
            clear hnx
            go_wp2_with (first
              | (go_at_call 22; (with_reducible refine HN.out.mono ?_); rintro e u2 ⟨p', rfl, hv, z1, z2, hc, -⟩; obtain ⟨n2, T2, hn2, hM3⟩ := HM2.out.chg HB.out hc; have hlk2 : (Instr.lookup 33 (.map (some b)) (.int .i64 p') true).run Tryz.prog u2 = .ok (.tuple #[.agg #[.int .i64 0, .string noE], .bool false]) u2 := Mp.lookNo hM3.mp pairP (by constructor <;> omega) hv; have hM3 := Lib.hid hM3; have hc := Lib.hid hc; have hv := Lib.hid hv)
              | (refine wpList_mput rfl (.tmp 90) (.tmp 91) (.tmp 94) rfl pairP rfl (hM3.out.keep0 (gb_alloc u2 _ none)).mp (by omega) p' (by constructor <;> omega) (kd, t) rfl rfl ?_; intro u4 hm4 g4; have hm4 := Lib.hid hm4; have g4 := Lib.hid g4)
              | fail)
            go_roundw
            case rel => exact ⟨j + 1, by omega, by omega, by go_num, n2, m' + 1, T2, upd V2 p' (kd, t), by omega, by omega, (hM3.out.keep0 (gb_alloc u2 _ none)).put HB.out hm4.out g4.out, low_upd HLo.out z2 _⟩
            case measure => simp [intOf]; omega
          · have HN := Lib.hid (new_non HM2.out.tx HM2.out.ov HTb.out (by omega) hk1 hk2 htl hnx)
            clear hnx
            go_wp2_with (first
              | (go_at_call 22; (with_reducible refine HN.out.mono ?_); rintro e u2 ⟨rfl, hc⟩; obtain ⟨n2, T2, hn2, hM3⟩ := HM2.out.chg HB.out hc; have hM3 := Lib.hid hM3; have hc := Lib.hid hc)
              | fail)
            go_roundw
            case rel => exact ⟨j + 1, by omega, by omega, by go_num, n2, m', T2, V2, by omega, by omega, hM3.out, HLo.out⟩
            case measure => simp [intOf]; omega
        · have hm1 : ((wh.toNat : Nat) : Int) % 4 = 1 := by omega
          clear hr whl
          by_cases hnx : M6.nextF T'.m 0 false < T'.m.length
          · have HN := Lib.hid (new_is HM2.out.tx HM2.out.ov HTb.out (by omega) hk1 hk2 htl hnx)
            clear hnx
            go_wp2_with (first
              | (go_at_call 22; (with_reducible refine HN.out.mono ?_); rintro e u2 ⟨p', rfl, hv, z1, z2, hc, -⟩; obtain ⟨n2, T2, hn2, hM3⟩ := HM2.out.chg HB.out hc; have hlk2 : (Instr.lookup 33 (.map (some b)) (.int .i64 p') true).run Tryz.prog u2 = .ok (.tuple #[.agg #[.int .i64 0, .string noE], .bool false]) u2 := Mp.lookNo hM3.mp pairP (by constructor <;> omega) hv; have hM3 := Lib.hid hM3; have hc := Lib.hid hc; have hv := Lib.hid hv)
              | (refine wpList_mput rfl (.tmp 90) (.tmp 91) (.tmp 94) rfl pairP rfl (hM3.out.keep0 (gb_alloc u2 _ none)).mp (by omega) p' (by constructor <;> omega) (kd, t) rfl rfl ?_; intro u4 hm4 g4; have hm4 := Lib.hid hm4; have g4 := Lib.hid g4)
              | fail)
            go_roundw
            case rel => exact ⟨j + 1, by omega, by omega, by go_num, n2, m' + 1, T2, upd V2 p' (kd, t), by omega, by omega, (hM3.out.keep0 (gb_alloc u2 _ none)).put HB.out hm4.out g4.out, low_upd HLo.out z2 _⟩
            case measure => simp [intOf]; omega
          · have HN := Lib.hid (new_non HM2.out.tx HM2.out.ov HTb.out (by omega) hk1 hk2 htl hnx)
            clear hnx
            go_wp2_with (first
              | (go_at_call 22; (with_reducible refine HN.out.mono ?_); rintro e u2 ⟨rfl, hc⟩; obtain ⟨n2, T2, hn2, hM3⟩ := HM2.out.chg HB.out hc; have hM3 := Lib.hid hM3; have hc := Lib.hid hc)
              | fail)
            go_roundw
            case rel => exact ⟨j + 1, by omega, by omega, by go_num, n2, m', T2, V2, by omega, by omega, hM3.out, HLo.out⟩
            case measure => simp [intOf]; omega
        · have hm1 : ((wh.toNat : Nat) : Int) % 4 = 2 := by omega
          clear hr whl
          by_cases hv : V2 p = none
          · obtain rfl : is = false := by rw [Bool.eq_false_iff]; intro e; exact hiff.1 e hv
            have HW := Lib.hid (write_non HM2.out.tx HM2.out.ov HTb.out (by omega) p hk1 hk2 htl hv)
            clear hiff hv
            go_wp2_with (first
              | (go_at_call 23; (with_reducible refine HW.out.mono ?_); rintro e u2 ⟨rfl, hc⟩; obtain ⟨n2, T2, hn2, hM3⟩ := HM2.out.chg HB.out hc; have hM3 := Lib.hid hM3; have hc := Lib.hid hc)
              | fail)
            go_roundw
            case rel => exact ⟨j + 1, by omega, by omega, by go_num, n2, m', T2, V2, by omega, by omega, hM3.out, HLo.out⟩
            case measure => simp [intOf]; omega
          · obtain rfl : is = true := hiff.2 hv
            have HW := Lib.hid (write_is HM2.out.tx HM2.out.ov HTb.out (by omega) p hk1 hk2 htl hv)
            clear hiff hv
            go_wp2_with (first
              | (go_at_call 23; (with_reducible refine HW.out.mono ?_); rintro e u2 (⟨rfl, hc⟩ | ⟨rfl, hc⟩) <;> (obtain ⟨n2, T2, hn2, hM3⟩ := HM2.out.chg HB.out hc; have hM3 := Lib.hid hM3; have hc := Lib.hid hc))
              | (refine wpList_mput rfl (.tmp 114) (.tmp 115) (.tmp 118) rfl pairP rfl hM3.out.mp (by omega) p hp64 (kd, t) rfl rfl ?_; intro u4 hm4 g4; have hm4 := Lib.hid hm4; have g4 := Lib.hid g4)
              | fail)
            · go_roundw
              case rel => exact ⟨j + 1, by omega, by omega, by go_num, n2, m' + 1, T2, upd V2 p (kd, t), by omega, by omega, hM3.out.put HB.out hm4.out g4.out, low_upd HLo.out (by omega) _⟩
              case measure => simp [intOf]; omega
            · go_roundw
              case rel => exact ⟨j + 1, by omega, by omega, by go_num, n2, m', T2, V2, by omega, by omega, hM3.out, HLo.out⟩
              case measure => simp [intOf]; omega
        · have hm1 : ((wh.toNat : Nat) : Int) % 4 = 3 := by omega
          clear hr whl
          by_cases hv : V2 p = none
          · obtain rfl : is = false := by rw [Bool.eq_false_iff]; intro e; exact hiff.1 e hv
            have HW := Lib.hid (drop_non HM2.out.tx HM2.out.ov p hv)
            have HV := Lib.hid hv
            clear hiff hv
            go_wp2_with (first
              | (go_at_call 24; (with_reducible refine HW.out.mono ?_); rintro e u2 ⟨rfl, hc⟩; obtain ⟨n2, T2, hn2, hM3⟩ := HM2.out.chg HB.out hc; have hM3 := Lib.hid hM3; have hc := Lib.hid hc)
              | (refine wpList_mdel rfl (.tmp 65) (.tmp 66) rfl pairP rfl hM3.out.mp p hp64 rfl ?_; intro u4 hm4 g4; have hm4 := Lib.hid hm4; have g4 := Lib.hid g4)
              | fail)
            have hm4 := Lib.hid (del_none HV.out ▸ hm4.out)
            go_roundw
            case rel => exact ⟨j + 1, by omega, by omega, by go_num, n2, m', T2, V2, by omega, by omega, hM3.out.put HB.out hm4.out g4.out, HLo.out⟩
            case measure => simp [intOf]; omega
          · obtain rfl : is = true := hiff.2 hv
            have HW := Lib.hid (drop_is HM2.out.tx HM2.out.ov p hv)
            have HV := Lib.hid hv
            clear hiff hv
            go_wp2_with (first
              | (go_at_call 24; (with_reducible refine HW.out.mono ?_); rintro e u2 ⟨rfl, hc⟩; obtain ⟨n2, T2, hn2, hM3⟩ := HM2.out.chg HB.out hc; have hM3 := Lib.hid hM3; have hc := Lib.hid hc)
              | (refine wpList_mdel rfl (.tmp 65) (.tmp 66) rfl pairP rfl hM3.out.mp p hp64 rfl ?_; intro u4 hm4 g4; have hm4 := Lib.hid hm4; have g4 := Lib.hid g4)
              | fail)
            go_roundw
            case rel => exact ⟨j + 1, by omega, by omega, by go_num, n2, m', T2, del V2 p, by omega, by omega, hM3.out.put HB.out hm4.out g4.out, low_del HLo.out _⟩
            case measure => simp [intOf]; omega
    · have HD := Lib.hid (show LayD w base k y g V N b n m 30 wr from ⟨n', m', T', V2, by omega, by omega, HM.out, HLo.out⟩)
      clear HM
      by_cases hlt : j < L
      · have h30 : ¬ j < 30 := fun e => hin ⟨hlt, e⟩
        clear hin
        go_wp2
        go_ret
        exact ⟨rfl, HD.out⟩
      · clear hin
        go_wp2
        go_ret
        exact ⟨rfl, HD.out⟩
end Go.Proofs.YtjbfooaembpdfaaGreatDoor.J10

/-
  How many pages stand, how many sectors are free then, and when a plan has room, as plain mathematics; conditions: those that each law states.
-/
namespace Go.Proofs.YtjbfooaembpdfaaGreatDoor.J10
open Go.RowKit
/-- How many pages stand. -/
def cntV (V : Pgs) : Nat := (List.range 960).countP fun j : Nat => (V ((j : Int) + 1)).isSome
theorem cntV_zero {V : Pgs} : cntV V = 0 ↔ ∀ j : Nat, j < 960 → V ((j : Int) + 1) = none := by
  unfold cntV
  rw [List.countP_eq_zero]
  constructor
  · intro h j hj
    have := h j (List.mem_range.2 hj)
    simpa using this
  · intro h j hj
    rw [h j (List.mem_range.1 hj)]
    simp
theorem cntV_mono {V W : Pgs} (h : ∀ j : Nat, j < 960 → V ((j : Int) + 1) ≠ none → W ((j : Int) + 1) ≠ none) : cntV V ≤ cntV W := by
  unfold cntV
  refine List.countP_mono_left fun j hj hv => ?_
  have := h j (List.mem_range.1 hj) (by intro e; rw [e] at hv; cases hv)
  exact Option.isSome_iff_ne_none.2 this
theorem countP_lt (i : Nat) : ∀ n : Nat, (List.range n).countP (fun j => decide (j < i)) = min n i
  | 0 => by simp
  | n + 1 => by
    rw [List.range_succ, List.countP_append, countP_lt i n]
    by_cases h : n < i
    · simp [h]; omega
    · simp [h]; omega
theorem cntV_first {V : Pgs} {i : Nat} (hi : i ≤ 960) (h : ∀ j : Nat, j < 960 → (V ((j : Int) + 1) ≠ none ↔ j < i)) : cntV V = i := by
  have e : cntV V = (List.range 960).countP (fun j => decide (j < i)) := by
    unfold cntV
    refine List.countP_congr fun j hj => ?_
    rw [Option.isSome_iff_ne_none, decide_eq_true_eq]
    exact h j (List.mem_range.1 hj)
  rw [e, countP_lt]
  omega
theorem filter_idx (P : List Nat) : (P.filter (· != 0)).length = (List.range P.length).countP fun j => P.getD j 0 != 0 := by
  have e : (List.range P.length).map (fun j => P.getD j 0) = P := by
    apply List.ext_getElem
    · simp
    · intro i h1 h2
      simp [List.getD_eq_getElem?_getD, h2]
  have h : (((List.range P.length).map fun j => P.getD j 0).filter (· != 0)).length = (List.range P.length).countP fun j => P.getD j 0 != 0 := by
    rw [List.filter_map, List.length_map, ← List.countP_eq_length_filter]
    rfl
  rw [e] at h
  exact h
section
variable {ss : List ByteArray} {cs : List Int} {t : T9.TB} {m : List Bool} {V : Pgs}
theorem Sto.pages (hs : Sto ss cs t m V) : (T9.secsF t.P).length = cntV V := by
  unfold T9.secsF cntV
  rw [filter_idx, hs.fit.1]
  refine List.countP_congr fun j hj => ?_
  rcases hs.page j (List.mem_range.1 hj) with ⟨h1, h2⟩ | ⟨h1, kd, b, h2, _⟩
  · rw [h1, h2]; simp
  · rw [h2]; simpa using h1
/-- Where all pages are of the first chunk. -/
theorem Sto.chunks (hs : Sto ss cs t m V) (hl : ∀ p, V p ≠ none → p ≤ 120) : (chunkL cs).length = if cntV V = 0 then 0 else 1 := by
  unfold chunkL
  rw [filter_idx, List.length_map, hs.len]
  have hz : ∀ i, 1 ≤ i → i < 8 → cN cs i = 0 := by
    intro i h1 h8
    rcases hs.chunk i h8 with ⟨h, _⟩ | ⟨_, ⟨j, hj, hji, h0⟩, _⟩
    · exact h
    · rcases hs.page j hj with ⟨e, _⟩ | ⟨_, kd, b, e, _⟩
      · exact absurd e h0
      · have := hl _ (by rw [e]; exact fun h => by cases h)
        omega
  have h0 : cN cs 0 = 0 ↔ cntV V = 0 := by
    rw [cntV_zero]
    rcases hs.chunk 0 (by omega) with ⟨h, hn⟩ | ⟨h, ⟨j, hj, hji, hp⟩, _⟩
    · refine ⟨fun _ j hj => ?_, fun _ => h⟩
      by_cases h9 : j / 120 = 0
      · rcases hs.page j hj with ⟨_, e⟩ | ⟨e, _⟩
        · exact e
        · exact absurd (hn j hj h9) e
      · rcases hs.page j hj with ⟨_, e⟩ | ⟨_, kd, b, e, _⟩
        · exact e
        · have := hl _ (by rw [e]; exact fun h => by cases h)
          omega
    · refine ⟨fun e => absurd e h, fun e => ?_⟩
      rcases hs.page j hj with ⟨e2, _⟩ | ⟨_, kd, b, e2, _⟩
      · exact absurd e2 hp
      · rw [e j hj] at e2; cases e2
  have hc : (List.range 8).countP (fun j => (cs.map Int.toNat).getD j 0 != 0) = (List.range 8).countP (fun j => j == 0 && decide (cntV V ≠ 0)) := by
    refine List.countP_congr fun j hj => ?_
    rw [cN_map]
    have hj8 := List.mem_range.1 hj
    by_cases e : j = 0
    · subst e
      by_cases q : cntV V = 0
      · rw [h0.2 q]; simp [q]
      · have : cN cs 0 ≠ 0 := fun e => q (h0.1 e)
        simp [q, this]
    · rw [hz j (by omega) hj8]; simp [e]
  rw [hc]
  by_cases q : cntV V = 0
  · rw [if_pos q]; simp [q]
  · rw [if_neg q]; simp only [q, ne_eq, not_false_eq_true, decide_true, Bool.and_true]; decide
theorem Sto.left (hs : Sto ss cs t m V) (hl : ∀ p, V p ≠ none → p ≤ 120) : M6.leftF m + 2 + (if cntV V = 0 then 0 else 1) + cntV V = ss.length := by
  have h := left_marks ss.length (usedL cs t.P) ((used_nodup cs t.P).2 hs.apart) hs.inn
  rw [← hs.map] at h
  have e : (usedL cs t.P).length = cntV V + (2 + (chunkL cs).length) := by
    unfold usedL
    rw [List.length_append, List.length_append, hs.pages]
    rfl
  rw [hs.chunks hl] at e
  omega
theorem fm_length {α β : Type} (f : α → Option β) : ∀ l : List α, (l.filterMap f).length = l.countP fun a => (f a).isSome
  | [] => rfl
  | a :: l => by
    have ih := fm_length f l
    cases h : f a with
    | none => rw [List.filterMap_cons_none h, ih, List.countP_cons_of_neg (by rw [h]; simp)]
    | some b => rw [List.filterMap_cons_some h, List.length_cons, ih, List.countP_cons_of_pos (by rw [h]; simp)]
/-- What is left for a transaction. -/
theorem Txi.left {T : T9.TB} {M : List Bool} {X V' : Pgs} (hs : Sto ss cs t m V) (h : Txi ss.length t m V T M X V') : M6.leftF M + cntV X = M6.leftF m := by
  obtain ⟨L, hL⟩ : ∃ L, L = (List.range 960).filterMap fun j : Nat => (X ((j : Int) + 1)).map (·.1) := ⟨_, rfl⟩
  have hmem : ∀ k, k ∈ L ↔ ∃ p d, X p = some (k, d) := by
    intro k
    rw [hL, List.mem_filterMap]
    constructor
    · rintro ⟨j, hj, e⟩
      cases hx : X ((j : Int) + 1) with
      | none => rw [hx] at e; cases e
      | some x => rw [hx] at e; simp at e; exact ⟨_, x.2, by rw [hx, ← e]⟩
    · rintro ⟨p, d, e⟩
      have hp : T9.IsPage p := by
        by_cases hp : T9.IsPage p
        · exact hp
        · rw [h.outX p hp] at e; cases e
      obtain ⟨j, hj, rfl⟩ := isPage_cases hp
      exact ⟨j, List.mem_range.2 hj, by rw [e]; rfl⟩
  have hfree : ∀ k, k ∈ L → k < ss.length ∧ m.getD k false = false := by
    intro k hk
    obtain ⟨p, d, e⟩ := (hmem k).1 hk
    obtain ⟨j, hj, rfl, _, _, h4, h5, _⟩ := Txi.texts h e
    exact ⟨h4, h5⟩
  have hnd : L.Nodup := by
    rw [hL]
    unfold List.Nodup
    rw [List.pairwise_filterMap]
    refine List.Pairwise.imp_of_mem ?_ List.nodup_range
    intro a b ha hb hab k hk k' hk' e
    subst e
    cases hx : X ((a : Int) + 1) with
    | none => rw [hx] at hk; cases hk
    | some x =>
      cases hy : X ((b : Int) + 1) with
      | none => rw [hy] at hk'; cases hk'
      | some z =>
        rw [hx] at hk
        rw [hy] at hk'
        simp at hk hk'
        have := h.inj _ _ k x.2 z.2 (by rw [hx, ← hk]) (by rw [hy, ← hk'])
        omega
  have hU := (used_nodup cs t.P).2 hs.apart
  have hM : M = marks ss.length (usedL cs t.P ++ L) := by
    refine ext_bool (by rw [h.len, marks_length]) fun k hk => ?_
    rw [h.len] at hk
    rw [marks_get]
    have h1 := h.mark k hk
    rw [hs.mget k] at h1
    rw [Bool.eq_iff_iff, h1, decide_eq_true_eq, List.mem_append, hmem k]
    exact ⟨fun e => ⟨hk, e⟩, fun e => e.2⟩
  have l1 := left_marks ss.length (usedL cs t.P) hU hs.inn
  have l2 := left_marks ss.length (usedL cs t.P ++ L) (List.nodup_append.2 ⟨hU, hnd, fun a ha b hb e => by
    subst e
    have h1 := (hs.mget a).2 ha
    rw [(hfree a hb).2] at h1
    cases h1⟩) (fun x hx => by
    rcases List.mem_append.1 hx with hx | hx
    · exact hs.inn x hx
    · exact (hfree x hx).1)
  rw [← hs.map] at l1
  rw [← hM, List.length_append] at l2
  have l3 : L.length = cntV X := by
    rw [hL, fm_length]
    unfold cntV
    refine List.countP_congr fun j _ => ?_
    simp
  omega
end
/-- Whether anything is left. -/
theorem left_pos (M : List Bool) : M6.nextF M 0 false < M.length ↔ 0 < M6.leftF M := by
  obtain ⟨_, h2, h3, h4⟩ := M6.nextF_spec M 0 false (Nat.zero_le _)
  unfold M6.leftF
  rw [List.count_pos_iff]
  constructor
  · intro h
    have := h4 h
    rw [List.getD_eq_getElem?_getD, List.getElem?_eq_getElem h] at this
    simp at this
    exact this ▸ List.getElem_mem h
  · intro h
    obtain ⟨i, hi, e⟩ := List.getElem_of_mem h
    refine Nat.lt_of_not_le fun hle => ?_
    have := h3 i (Nat.zero_le _) (by omega)
    rw [List.getD_eq_getElem?_getD, List.getElem?_eq_getElem hi] at this
    simp [e] at this
theorem left_set {M : List Bool} {k : Nat} (hk : k < M.length) : M6.leftF M ≤ M6.leftF (M.set k true) + 1 := by
  unfold M6.leftF
  rw [List.count_set hk]
  by_cases h : M[k] = false
  · simp [h]; omega
  · simp at h; simp [h]
theorem plan_room (P : List Nat) : ∀ (l : List Nat) (s : PlanS), l.length ≤ M6.leftF s.M → planTo P s l ≠ none
  | [], s, _ => by rw [plan_nil]; simp
  | i :: l, s, h => by
    rw [List.length_cons] at h
    rw [plan_cons]
    unfold planStep
    by_cases hf : fillsB P i = true
    · have hlt := (left_pos s.M).2 (by omega)
      rw [if_pos hf, if_pos hlt]
      refine plan_room P l _ ?_
      have := left_set hlt
      show l.length ≤ M6.leftF (s.M.set _ true)
      omega
    · rw [if_neg hf]
      exact plan_room P l ⟨s.cs.set i 0, s.M, s.ws⟩ (by show l.length ≤ M6.leftF s.M; omega)
theorem dirty_len (D : List Bool) : (T9.dirtyF D).length ≤ 8 := by
  have h1 := dirty_nodup D
  have h2 := dirty_lt D
  have : (T9.dirtyF D).length ≤ (List.range 8).length := List.Nodup.length_le_of_subset h1 (fun x hx => List.mem_range.2 (h2 x hx))
  simpa using this
/-- A transaction whose commit has room. -/
theorem Over.room {g : Pg} {T : Tr} {V V' : Pgs} {N : Nat} (o : Over g T V V' N) (h : cntV V' + 8 ≤ M6.leftF g.m) : planTo T.t.P ⟨g.r.cs, T.m, []⟩ (T9.dirtyF T.t.D) ≠ none := by
  refine plan_room _ _ _ ?_
  have h1 := o.tx.left o.st.sto
  have h2 : cntV T.X ≤ cntV V' := cntV_mono fun j hj hx e => by
    rcases o.tx.page j hj with ⟨s, d, _, _, _, _, _, kd, b, e2, _⟩ | ⟨e1, _⟩ | ⟨e1, _⟩
    · rw [e] at e2; cases e2
    · exact hx e1
    · exact hx e1
  have h3 := dirty_len T.t.D
  show _ ≤ M6.leftF T.m
  omega
/-- Over a store without pages all pages are the transaction's own. -/
theorem Over.own {g : Pg} {T : Tr} {V' : Pgs} {N : Nat} (o : Over g T (fun _ => none) V' N) : cntV T.X = cntV V' := by
  refine Nat.le_antisymm (cntV_mono fun j hj hx e => ?_) (cntV_mono fun j hj hv e => ?_)
  · rcases o.tx.page j hj with ⟨s, d, _, _, _, _, _, kd, b, e2, _⟩ | ⟨e1, _⟩ | ⟨e1, _⟩
    · rw [e] at e2; cases e2
    · exact hx e1
    · exact hx e1
  · rcases o.tx.page j hj with ⟨s, d, e1, _⟩ | ⟨_, _, e1⟩ | ⟨_, _, _, e1⟩
    · rw [e] at e1; cases e1
    · exact hv e1
    · exact hv e1
end Go.Proofs.YtjbfooaembpdfaaGreatDoor.J10

/-
  Calls in the words of the store, with their answers as numbers: Left, Epoch, a Commit that has room, a Read of a page; over this seat's translation; conditions: those that each law states.
-/
namespace Go.Proofs.YtjbfooaembpdfaaGreatDoor.J10
open Go.RowKit Go.Maps
theorem dnew64 (w : World) : Calls Tryz.prog 7 #[.int .i64 64] w fun e w' => ∃ p, e = .returned (.pointer (some ⟨p, 0, none⟩)) ∧ D5.PD w' w.heap.size (D5.newF w w') p (D5.newS 64) ∧ w.grownBy w' none := D5.dnew_any 64 w (by omega) (by omega)
theorem left_is {w : World} {base : Nat} {k : Bk} {g : Pg} (h : PgV w base k g) (hn : g.m.length ≤ 1024) (z : Int) (hz : ((M6.leftF g.m : Nat) : Int) = z) : Calls Tryz.prog 18 #[.pointer (some ⟨k.p, 0, none⟩)] w fun e w' => e = .returned (.int .i64 z) ∧ w = w' := by
  subst hz; exact left_any h hn
theorem epoch_is {w : World} {base : Nat} {k : Bk} {g : Pg} (h : PgV w base k g) (z : Int) (hz : ((g.r.e : Nat) : Int) = z) : Calls Tryz.prog 19 #[.pointer (some ⟨k.p, 0, none⟩)] w fun e w' => e = .returned (.int .u64 z) ∧ w = w' := by
  subst hz; exact epoch_any h
/-- An over transaction is none of a pager's blocks. -/
theorem over_far {w : World} {base x : Nat} {k : Bk} {g : Pg} (h : PgV w base k g) (hx : OverB w x) : ¬ footG k x := by
  intro hi
  rcases hi with e | e | e | e
  · exact blk_ne hx h.blk (by decide) e
  · exact disk_apart h.disk hx (by decide) (by decide) (by decide) e
  · exact blk_ne hx h.tab.1 (by decide) e
  · exact blk_ne hx h.map (by decide) e
/-- A page that stands. -/
theorem shows_at {g : Pg} {V : Pgs} {N : Nat} (h : Shows g V N) {p : Int} {kd : Nat} {b : ByteArray} (hv : V p = some (kd, b)) : ∃ m, In64 p ∧ T9.getF g.t p = m ∧ m ≠ 0 ∧ m < g.d.secs.length ∧ secAt g.d.secs m = sealB kd b ∧ 1 ≤ kd ∧ kd ≤ 254 ∧ b.size ≤ 240 := by
  have hp : T9.IsPage p := by
    by_cases hp : T9.IsPage p
    · exact hp
    · rw [h.sto.outV p hp] at hv; cases hv
  obtain ⟨j, hj, rfl⟩ := isPage_cases hp
  rcases h.sto.page j hj with ⟨_, e⟩ | ⟨h0, kd', b', e, h1, h2, h3, h4⟩
  · rw [e] at hv; cases hv
  · rw [e] at hv
    cases hv
    exact ⟨_, page64 hp, T9.getF_nat _ _ hj, h0, (h.sto.mpage hj h0).2.1, h4, h1, h2, h3⟩
/-- A Read of a page that stands. -/
theorem read_at {w : World} {base n N : Nat} {k : Bk} {y : Bx} {g : Pg} {V : Pgs} {b0 : Bool} (h : TxV w base k y n { g with busy := b0 } ⟨g.t, g.m, fun _ => none⟩) (s : Shows g V N) (hN : N ≤ 5000) (p : Int) (kd : Nat) (b : ByteArray) (hv : V p = some (kd, b)) :
    Calls Tryz.prog 21 #[.pointer (some ⟨y.x, 0, none⟩), .int .i64 p] w fun e w' => e = .returned (.tuple #[.int .i64 (kd : Nat), .string b, .int .i64 0]) ∧ D5.Kp (footG k) w w' := by
  obtain ⟨m, h1, h2, h3, h4, h5, h6, h7, h8⟩ := shows_at s hv
  refine (txRead_any h s.dead s.idle s.ok hN h1 rfl h2 h3 h4 h5 h6 h7 h8).mono fun e w' hh => ?_
  obtain ⟨e1, k', _, _, _, _, _, _, hk⟩ := hh
  exact ⟨e1, hk.mono fun i hi => .inr (.inl hi)⟩
/-- What a Commit leaves, of a disk that is not armed, with room. -/
def ComK (w : World) (base : Nat) (k : Bk) (y : Bx) (g : Pg) (V V' : Pgs) (N : Nat) (w' : World) : Prop :=
  ∃ k' g', k'.p = k.p ∧ k'.dp = k.dp ∧ PgV w' base k' g' ∧ g'.busy = false ∧ OverB w' y.x ∧ (∀ i, footG k' i → footX k y i ∨ w.heap.size ≤ i) ∧ D5.Kp (footX k y) w w' ∧
    Stands g' V' (N + 110) ∧ ((g'.r.e = g.r.e ∧ V' = V) ∨ g'.r.e = g.r.e + 1) ∧ g'.d.armed = false ∧ g'.d.secs.length = g.d.secs.length
theorem com_ok {w : World} {base n N : Nat} {k : Bk} {y : Bx} {g : Pg} {T : Tr} {V V' : Pgs} (h : TxV w base k y n g T) (o : Over g T V V' N) (hE : Env w) (b5 : 5 ≤ base) (hb : base ≤ w.heap.size) (hN : N ≤ 4800) (hre : g.r.e < 999999) (ha : g.d.armed = false) (hr : cntV V' + 8 ≤ M6.leftF g.m) :
    Calls Tryz.prog 14 #[.pointer (some ⟨y.x, 0, none⟩)] w fun e w' => e = .returned (.int .i64 0) ∧ ComK w base k y g V V' N w' :=
  (ov_commit h o hE b5 hb hN hre).mono fun e w' hh => by
    obtain ⟨c, k', g', e1, e2, e3, e4, e5, e6, e7, e8, e9⟩ := hh
    rcases e9 with ⟨rfl, h1, h2, _, h4, h5⟩ | ⟨_, _, _, h4, _⟩ | ⟨_, h2, _⟩
    · exact ⟨e1, k', g', e2, e3, e4, e5, e6, e7, e8, h1, h2, h4 ha, h5⟩
    · exact absurd h4 (o.room hr)
    · rw [ha] at h2; cases h2
theorem Stands.len {g : Pg} {V : Pgs} {N : Nat} (h : Stands g V N) : g.m.length ≤ 1024 := by rw [h.sto.mlen]; have := h.sto.n2; omega
theorem Stands.left {g : Pg} {V : Pgs} {N : Nat} (h : Stands g V N) (hl : Low V) : M6.leftF g.m + 2 + (if cntV V = 0 then 0 else 1) + cntV V = g.d.secs.length := h.sto.left fun p hp => by have := hl p hp; omega
theorem low_nil : Low fun _ => none := fun _ h => absurd rfl h
theorem cntV_nil : cntV (fun _ => none) = 0 := cntV_zero.2 fun _ _ => rfl
/-- A new page is the lowest one that stands nowhere. -/
theorem new_low {w : World} {base n N : Nat} {k : Bk} {y : Bx} {g : Pg} {T : Tr} {V V' : Pgs} (h : TxV w base k y n g T) (o : Over g T V V' N) (hT : M6.Tab w) (hn : n < 1000000) {kd : Nat} {b : ByteArray} (h1 : 1 ≤ kd) (h2 : kd ≤ 254) (h3 : b.size ≤ 240) (hk : M6.nextF T.m 0 false < T.m.length)
    (z : Int) (hz : ((kd : Nat) : Int) = z) (pz : Int) (hp : 1 ≤ pz) (hlow : ∀ q : Int, 1 ≤ q → q < pz → V' q ≠ none) (hno : V' pz = none) :
    Calls Tryz.prog 22 #[.pointer (some ⟨y.x, 0, none⟩), .int .i64 z, .string b] w fun e w' => e = .returned (.tuple #[.int .i64 pz, .int .i64 0]) ∧ Chg w base k y n g V N (upd V' pz (kd, b)) w' := by
  subst hz
  refine (new_is h o hT hn h1 h2 h3 hk).mono fun e w' hh => ?_
  obtain ⟨p, e1, e2, e3, _, e5, e6⟩ := hh
  obtain rfl : p = pz := by
    by_cases q1 : p < pz
    · exact absurd e2 (hlow p e3 q1)
    · by_cases q2 : pz < p
      · exact absurd hno (e6 pz hp q2)
      · omega
  exact ⟨e1, e5⟩
/-- One page. -/
theorem cntV_one (x : Nat × ByteArray) : cntV (upd (fun _ => none) 1 x) = 1 := cntV_first (by omega) fun j _ => by
  unfold upd
  by_cases e : j = 0
  · subst e; simp
  · rw [if_neg (by omega)]; simp; omega
end Go.Proofs.YtjbfooaembpdfaaGreatDoor.J10

/-
  The chapter's examples, as the law plays them (works): its walk, over this seat's translation; conditions: the listed variables are laid.
-/
namespace Go.Proofs.YtjbfooaembpdfaaGreatDoor.J10
open Go.RowKit Go.Maps
theorem env_gb {w w' : World} (h : Env w) (g : w.grownBy w' none) : Env w' := h.kp (D5.Kp.of0 (F := fun _ => False) g) (fun _ h => h.elim)
set_option maxRecDepth 100000 in
set_option maxHeartbeats 4000000 in
theorem works_any {w : World} (hE : Env w) (h5 : 5 ≤ w.heap.size) : Calls Tryz.prog 6 #[] w fun e w' => e = .returned (.bool true) ∧ w.grownBy w' none := by
  have HE := Lib.hid hE
  clear hE
  go_enter Tryz.func6, Tryz.ntmps6
  go_wp2_with (first
    | (go_at_call 7; (with_reducible refine (dnew64 w).mono ?_); rintro e w1 ⟨p, rfl, hP, g1⟩; have hP := Lib.hid hP; have g1 := Lib.hid g1)
    | fail)
  have z1 := g1.out.size
  have hO := ov_fresh hP.out (by omega) (by omega) (env_gb HE.out g1.out) z1 (fun i hi => ⟨by have := hi.1; omega, hi.2⟩)
  have HO := Lib.hid hO
  clear hO
  go_wp2_with (first
    | (go_at_call 8; (with_reducible refine HO.out.mono ?_); rintro e w2 ⟨k, g, rfl, hG, hS, hbz, har, hsc, hre, -, -, -, -, hft, hk2⟩; have hG := Lib.hid hG; have hS := Lib.hid hS; have hbz := Lib.hid hbz; have har := Lib.hid har; have hsc := Lib.hid hsc; have hre := Lib.hid hre; have hft := Lib.hid hft; have hk2 := Lib.hid hk2)
    | fail)
  have G2 := Lib.hid (gb_kp g1.out hk2.out (fun i hi => hi.1))
  have hlen : g.d.secs.length = 64 := by rw [hsc.out]; exact List.length_replicate
  have HLf := Lib.hid (show ((M6.leftF g.m : Nat) : Int) = 62 by have := hS.out.left low_nil; rw [cntV_nil, hlen] at this; simp at this; omega)
  have z2 := G2.out.size
  have HBg := Lib.hid (begin_any hG.out hS.out.dead hbz.out z2)
  unfold BeginGot at HBg
  have HSb := Lib.hid (hS.out.busy true)
  have HLn := Lib.hid hlen
  clear hlen
  go_wp2_with (first
    | (go_at_call 18; (with_reducible refine (left_is hG.out hS.out.len 62 HLf.out).mono ?_); rintro e w' ⟨rfl, rfl⟩)
    | (go_at_call 19; (with_reducible refine (epoch_is hG.out 0 (by simp [hre.out])).mono ?_); rintro e w' ⟨rfl, rfl⟩)
    | (go_at_call 10; (with_reducible refine HBg.out.mono ?_); rintro e w3 ⟨y, rfl, h3, k3, lx, ltb, lmb, lbm⟩; have h3 := Lib.hid h3; have k3 := Lib.hid k3)
    | (go_at_call 10; (with_reducible refine (begin_busy h3.out.pg hS.out.dead rfl).mono ?_); rintro e w' ⟨rfl, rfl⟩)
    | fail)
  have z3 := k3.out.size
  have lkp := hG.out.bp
  have G3 := Lib.hid (gb_kp G2.out k3.out (fun i hi => by rw [hi]; exact lkp))
  have o3 : Over { g with busy := true } ⟨g.t, g.m, fun _ => none⟩ (fun _ => none) (fun _ => none) 10 := Over.new HSb.out
  have O3 := Lib.hid o3
  have E3 := Lib.hid (env_gb HE.out G3.out)
  have HNw := Lib.hid (new_low (kd := 7) (b := ⟨#[111, 110, 101]⟩) h3.out O3.out E3.out.tab (by omega) (by omega) (by omega) (by decide) ((left_pos g.m).2 (by have := HLf.out; omega)) 7 rfl 1 (by omega) (fun q h1 h2 => by omega) rfl)
  clear o3
  go_wp2_with (first
    | (go_at_call 22; (with_reducible refine HNw.out.mono ?_); rintro e w4 ⟨rfl, hc⟩; have hc := Lib.hid hc)
    | fail)
  obtain ⟨n4, T4, hn4, h4, o4, k4⟩ := hc.out
  have H4 := Lib.hid h4
  have O4 := Lib.hid o4
  have K4 := Lib.hid k4
  have G4 := Lib.hid (gb_kp G3.out k4 (fun i hi => h4.ge i (footT_X hi)))
  have HCm := Lib.hid (com_ok h4 o4 (env_gb HE.out G4.out) h5 G4.out.size (by omega) (by show g.r.e < 999999; rw [hre.out]; omega) har.out (by rw [cntV_one]; show 1 + 8 ≤ M6.leftF g.m; have := HLf.out; omega))
  clear h4 o4 k4 hc
  go_wp2_with (first
    | (go_at_call 14; (with_reducible refine HCm.out.mono ?_); rintro e w5 ⟨rfl, hc⟩; have hc := Lib.hid hc)
    | fail)
  obtain ⟨k5, g5, e5, e5d, p5, b5, ov5, f5, kp5, s5, v5, a5, l5⟩ := hc.out
  have hre5 : g5.r.e = 1 := by
    have h0 := hre.out
    rcases v5 with ⟨_, e⟩ | e
    · have := congrFun e 1
      rw [upd_same] at this
      cases this
    · rw [e]; show g.r.e + 1 = 1; omega
  have hl5 : ((M6.leftF g5.m : Nat) : Int) = 60 := by
    have := s5.left (low_upd low_nil (by omega) _)
    rw [cntV_one, l5] at this
    have e := HLn.out
    simp at this
    omega
  have G5 := Lib.hid (gb_kp G4.out kp5 (fun i hi => H4.out.ge i hi))
  have P5 := Lib.hid p5
  have S5 := Lib.hid s5
  have V5 := Lib.hid ov5
  have HL5 := Lib.hid hl5
  have HR5 := Lib.hid hre5
  have HEp := Lib.hid e5
  have A5 := Lib.hid a5
  have cL : Calls Tryz.prog 18 #[.pointer (some ⟨k.p, 0, none⟩)] w5 (fun e w' => e = .returned (.int .i64 60) ∧ w5 = w') := by rw [← e5]; exact left_is p5 s5.len 60 hl5
  have cE : Calls Tryz.prog 19 #[.pointer (some ⟨k.p, 0, none⟩)] w5 (fun e w' => e = .returned (.int .u64 1) ∧ w5 = w') := by rw [← e5]; exact epoch_is p5 1 (by rw [hre5]; rfl)
  have cB : Calls Tryz.prog 10 #[.pointer (some ⟨k.p, 0, none⟩)] w5 (BeginGot w5 w.heap.size k5 g5) := by rw [← e5]; exact begin_any p5 s5.dead b5 G5.out.size
  have CL := Lib.hid cL
  have CE := Lib.hid cE
  unfold BeginGot at cB
  have CB := Lib.hid cB
  have FX := Lib.hid (over_far p5 ov5)
  have HSh := Lib.hid (s5.shows a5)
  have LK := Lib.hid p5.bp
  clear p5 s5 ov5 hl5 hre5 v5 f5 kp5 hc a5 cL cE cB e5 e5d l5
  go_wp2_with (first
    | (go_at_call 18; (with_reducible refine CL.out.mono ?_); rintro e w' ⟨rfl, rfl⟩)
    | (go_at_call 19; (with_reducible refine CE.out.mono ?_); rintro e w' ⟨rfl, rfl⟩)
    | (go_at_call 10; (with_reducible refine CB.out.mono ?_); rintro e w6 ⟨y6, rfl, h6, k6, lx6, ltb6, lmb6, lbm6⟩; have h6 := Lib.hid h6; have k6 := Lib.hid k6)
    | fail)
  have cR : Calls Tryz.prog 21 #[.pointer (some ⟨y6.x, 0, none⟩), .int .i64 1] w6 (fun e w' => e = .returned (.tuple #[.int .i64 7, .string ⟨#[111, 110, 101]⟩, .int .i64 0]) ∧ D5.Kp (footG k5) w6 w') := read_at h6.out HSh.out (by omega) 1 7 ⟨#[111, 110, 101]⟩ (upd_same _ _ _)
  have CR := Lib.hid cR
  have V6 := Lib.hid (show OverB w6 y.x from k6.out.blk V5.out (fun e => FX.out (.inl e)))
  have G6 := Lib.hid (gb_kp G5.out k6.out (fun i hi => by rw [hi]; exact LK.out))
  clear cR
  go_wp2_with (first
    | (go_at_call 21; (with_reducible refine CR.out.mono ?_); rintro e w7 ⟨rfl, k7⟩; have V7 := Lib.hid (show OverB w7 y.x from k7.blk V6.out FX.out); have k7 := Lib.hid k7)
    | (go_at_call 14; (with_reducible refine (commit_over V7.out).mono ?_); rintro e w' ⟨rfl, rfl⟩)
    | fail)
  go_ret
  exact ⟨rfl, gb_kp G6.out k7.out (fun i hi => P5.out.ge i hi)⟩
end Go.Proofs.YtjbfooaembpdfaaGreatDoor.J10

/-
  What the stage's theorem plays with: rounds in memory, a disk that is armed, or booted, beside a pager; over this seat's translation; conditions: those that each law states.
-/
namespace Go.Proofs.YtjbfooaembpdfaaGreatDoor.J10
open Go.RowKit Go.Maps
/-- A round. -/
structure Rnd where
  v : Value
  acts : List Ac
  lets : UInt8
def rdC1 (r : Rnd) : List Value := [r.v, .int .u8 (r.lets.toNat : Nat)]
def rdsC (l : List Rnd) : List Value := l.flatMap rdC1
theorem rdsC_length : ∀ l : List Rnd, (rdsC l).length = l.length * 2
  | [] => rfl
  | x :: l => by
    have ih := rdsC_length l
    unfold rdsC at ih ⊢
    rw [List.flatMap_cons, List.length_append, ih]
    show 2 + _ = (l.length + 1) * 2
    omega
theorem rdsC_at : ∀ (l : List Rnd) (k : Nat) (hk : k < l.length) (j : Nat) (_ : j < 2), (rdsC l)[k * 2 + j]? = (rdC1 l[k])[j]?
  | [], _, hk, _, _ => by simp at hk
  | x :: l, 0, _, j, hj => by
    unfold rdsC
    rw [List.flatMap_cons, Nat.zero_mul, Nat.zero_add, List.getElem?_append_left (by show j < 2; exact hj)]
    rfl
  | x :: l, k + 1, hk, j, hj => by
    have ih := rdsC_at l k (by simpa using hk) j hj
    unfold rdsC at ih ⊢
    rw [List.flatMap_cons, List.getElem?_append_right (by show 2 ≤ _; omega)]
    rw [show (k + 1) * 2 + j - (rdC1 x).length = k * 2 + j by show _ - 2 = _; omega, ih]
    rfl
/-- A slice of rounds. -/
def Rds (w : World) (v : Value) (l : List Rnd) : Prop := Sl 2 w v l.length (rdsC l) ∧ ∀ r ∈ l, Acs w r.v r.acts
/-- The disk is armed. -/
theorem arm_pg {w : World} {base : Nat} {k : Bk} {g : Pg} (h : PgV w base k g) (n : Int) : Calls Tryz.prog 9 #[.pointer (some ⟨k.dp, 0, none⟩), .int .i64 n] w fun e w' =>
    e = .returned (.tuple #[]) ∧ ∃ k', k'.p = k.p ∧ k'.dp = k.dp ∧ PgV w' base k' { g with d := D5.armS g.d n } ∧ (∀ i, footG k' i → footG k i) ∧ D5.Kp (footG k) w w' := by
  refine (D5.darm_any w base (D5.footP k.dp k.vs k.vp k.bm) k.dp g.d n ⟨k.vs, k.vp, k.bm, k.D, h.disk, fun _ h => h⟩).mono fun e w' hh => ?_
  obtain ⟨e1, hp, hk⟩ := hh
  obtain ⟨k', e2, e3, e4, e5, hg, hf⟩ := h.disk' hk hp
  refine ⟨e1, k', e2, e5, hg, fun i hi => ?_, hk.mono fun i hi => .inr (.inl hi)⟩
  exact (foot_of (F := fun _ => False) e2 e3 e4 (fun i h => .inl (hf i h)) i hi).resolve_right id
theorem Stands.arm {g : Pg} {V : Pgs} {N : Nat} (h : Stands g V N) {n : Int} (hn : n ≤ 1000) : Stands { g with d := D5.armS g.d n } V N := ⟨h.sto, h.roots, h.off, h.pend, h.ok.arms n (by omega), h.dead, h.re⟩
/-- A disk that can be opened, behind any boot. -/
theorem Stands.boot {g : Pg} {V : Pgs} {N : Nat} (h : Stands g V N) (cs : List UInt8) : Opens (D5.bootS g.d cs).secs V := by
  have hl : (D5.bootS g.d cs).secs.length = g.d.secs.length := D5.afterF_length ..
  have ha := boot_none g.d cs h.pend
  exact ⟨g.r, g.wh, g.t, g.m, (h.roots.frame hl (ha 0) (ha 1)).picks, h.sto.frame hl (h.ok.boot cs).whole (fun k _ _ => ha k)⟩
theorem boot_idle (s : D5.St) (cs : List UInt8) : Idle (D5.bootS s cs) := ⟨rfl, rfl, rfl⟩
/-- The disk of a pager is booted. -/
theorem boot_pg {w : World} {base N : Nat} {k : Bk} {g : Pg} (h : PgV w base k g) (hok : g.d.Ok N) (hN : N ≤ 5000) (hb : base ≤ w.heap.size) (hm : D5.Masks w) {vc : Value} {cs : List UInt8} (hc : Bts w vc cs) :
    Calls Tryz.prog 15 #[.pointer (some ⟨k.dp, 0, none⟩), vc] w fun e w' => e = .returned (.tuple #[]) ∧ D5.PD w' base (D5.Nw (footG k) w w') k.dp (D5.bootS g.d cs) ∧ D5.Kp (footG k) w w' := by
  refine (D5.dboot_any w base (D5.footP k.dp k.vs k.vp k.bm) k.dp g.d vc cs N ⟨k.vs, k.vp, k.bm, k.D, h.disk, fun _ h => h⟩ hok hN hb hm hc).mono fun e w' hh => ?_
  obtain ⟨e1, ⟨vs, vp, bm, D, hv, hf⟩, hk⟩ := hh
  exact ⟨e1, ⟨vs, vp, bm, D, hv, fun i hi => (hf i hi).imp (fun h => .inr (.inl h)) id⟩, hk.mono fun i hi => .inr (.inl hi)⟩
end Go.Proofs.YtjbfooaembpdfaaGreatDoor.J10
