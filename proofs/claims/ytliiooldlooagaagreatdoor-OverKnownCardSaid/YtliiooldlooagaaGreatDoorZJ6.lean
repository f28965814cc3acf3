/-
  Texts of one layer, one behind the other, each with its own sentence; conditions: those that each law states.
-/
import Derived.Test.YtliiooldlooagaaGreatDoorZD6
import Derived.Test.YtliiooldlooagaaGreatDoorZJ5
set_option linter.unusedSimpArgs false
set_option linter.unusedVariables false

/-
  A pager on a store that counts, and a transaction over it: what the calls answer, and what they leave, in the words of the store; over this seat's translation; conditions: those that each law states.
-/
namespace Go.Proofs.YtliiooldlooagaaGreatDoor.J10
open Go.RowKit Go.Maps
/-- The variables that are listed. -/
structure Env (w : World) : Prop where
  tab : M6.Tab w
  pl : R8.Pl w
  hd : Hd w
theorem Env.kp {F : Nat → Prop} {w w' : World} (h : Env w) (k : D5.Kp F w w') (hF : ∀ i, F i → 4 ≤ i) : Env w' := ⟨tab_kp h.tab k hF, pl_kp h.pl k hF, hd_kp h.hd k hF⟩
theorem PgV.ge {w : World} {base : Nat} {k : Bk} {g : Pg} (h : PgV w base k g) : ∀ i, footG k i → base ≤ i := by
  intro i hi
  rcases hi with rfl | hi | rfl | rfl
  · exact h.bp
  · exact pdv_ge h.disk i hi
  · exact h.bt
  · exact h.bmb
theorem TxV.ge {w : World} {base n : Nat} {k : Bk} {y : Bx} {g : Pg} {T : Tr} (h : TxV w base k y n g T) : ∀ i, footX k y i → base ≤ i := by
  intro i hi
  rcases hi with hi | rfl | rfl | rfl | rfl
  · exact h.pg.ge i hi
  · exact h.bx
  · exact h.bt
  · exact h.bmb
  · exact h.bbm
/-- The store that a pager tells. -/
structure Stands (g : Pg) (V : Pgs) (N : Nat) : Prop where
  sto : Sto g.d.secs g.r.cs g.t g.m V
  roots : Roots g.d.secs g.r g.wh
  off : g.d.off = false
  pend : g.d.pend = []
  ok : g.d.Ok N
  dead : g.dead = false
  re : g.r.e < 1000000
theorem Stands.fit {g : Pg} {V : Pgs} {N : Nat} (h : Stands g V N) : R8.Fit g.r := by
  have hl := h.sto.len
  have hn := h.sto.n2
  have he := h.re
  have hz : g.r = R8.zeroR ∨ R8.Good g.r := by
    rcases h.roots with ⟨_, e, _⟩ | ⟨_, e, _⟩ | ⟨_, e, _⟩
    · exact .inl e
    · exact .inr e
    · exact .inr e
  refine ⟨hl, by omega, ?_, fun i hi => ?_⟩
  · rcases hz with e | e
    · rw [e]; exact ⟨by decide, by decide⟩
    · have h1 := e.1.2.1; have h2 := e.1.2.2.1; constructor <;> omega
  · have h1 := h.sto.pos i hi
    have h2 := h.sto.okAt hi
    rcases h2 with h2 | ⟨_, h2, _⟩
    · rw [h2]; constructor <;> omega
    · constructor <;> omega
theorem Stands.busy {g : Pg} {V : Pgs} {N : Nat} (h : Stands g V N) (b : Bool) : Stands { g with busy := b } V N := ⟨h.sto, h.roots, h.off, h.pend, h.ok, h.dead, h.re⟩
/-- A transaction over it. -/
structure Over (g : Pg) (T : Tr) (V V' : Pgs) (N : Nat) : Prop where
  st : Stands g V N
  tx : Txi g.d.secs.length g.t g.m V T.t T.m T.X V'
theorem Over.new {g : Pg} {V : Pgs} {N : Nat} (h : Stands g V N) : Over g ⟨g.t, g.m, fun _ => none⟩ V V N := ⟨h, Txi.new h.sto⟩
theorem Over.ml {g : Pg} {T : Tr} {V V' : Pgs} {N : Nat} (h : Over g T V V' N) : T.m.length ≤ 1024 := by rw [h.tx.len]; have := h.st.sto.n2; omega
/-- Which pages a transaction has. -/
theorem Over.has {g : Pg} {T : Tr} {V V' : Pgs} {N : Nat} (h : Over g T V V' N) (p : Int) : T9.getF T.t p = 0 ↔ V' p = none := by
  by_cases hp : T9.IsPage p
  · obtain ⟨j, hj, rfl⟩ := isPage_cases hp
    rw [T9.getF_nat _ _ hj]
    rcases h.tx.page j hj with ⟨s, d, _, e1, e2, _, _, hk⟩ | ⟨_, e1, e2⟩ | ⟨_, e1, e2, e3⟩
    · obtain ⟨kd, b, hv, _⟩ := hk
      rw [hv]
      constructor
      · intro e; omega
      · intro e; cases e
    · exact ⟨fun _ => e2, fun _ => e1⟩
    · rw [e3]
      constructor
      · intro e; exact absurd e e1
      · intro e
        rcases h.st.sto.page j hj with ⟨q1, _⟩ | ⟨_, kd, b, hv, _⟩
        · rw [e2]; exact q1
        · rw [hv] at e; cases e
  · constructor
    · intro _; exact h.tx.outV p hp
    · intro _; unfold T9.getF; rw [if_neg hp]
theorem Over.isPage {g : Pg} {T : Tr} {V V' : Pgs} {N : Nat} (h : Over g T V V' N) {p : Int} (hv : V' p ≠ none) : T9.IsPage p := by
  by_cases hp : T9.IsPage p
  · exact hp
  · exact absurd (h.tx.outV p hp) hv
theorem Over.noX {g : Pg} {T : Tr} {V V' : Pgs} {N : Nat} (h : Over g T V V' N) {j : Nat} (hj : j < 960) (h0 : T.t.P.getD j 0 = 0) : T.X ((j : Int) + 1) = none := by
  rcases h.tx.page j hj with ⟨s, d, _, e1, e2, _⟩ | ⟨e, _⟩ | ⟨e, _⟩
  · omega
  · exact e
  · exact e
section
variable {w : World} {base n N : Nat} {k : Bk} {y : Bx} {g : Pg} {T : Tr} {V V' : Pgs}
theorem low_or_full {P : List Nat} (hl : P.length = 960) : (∃ j, j < 960 ∧ P.getD j 0 = 0 ∧ T9.lowN P = j + 1 ∧ T9.lowE P = 0 ∧ ∀ k, k < j → P.getD k 0 ≠ 0) ∨ (T9.lowN P = 0 ∧ T9.lowE P = 15 ∧ ∀ j, j < 960 → P.getD j 0 ≠ 0) := by
  by_cases h : ∃ j, j < 960 ∧ P.getD j 0 = 0
  · obtain ⟨j, hj, h0⟩ := h
    have hex : ∃ i, i ≤ j ∧ P.getD i 0 = 0 ∧ ∀ k, k < i → P.getD k 0 ≠ 0 := by
      induction j using Nat.strongRecOn with
      | ind j ih =>
        by_cases hc : ∃ k, k < j ∧ P.getD k 0 = 0
        · obtain ⟨k, hk, h1⟩ := hc
          obtain ⟨i, hi, h2⟩ := ih k hk (by omega) h1
          exact ⟨i, by omega, h2⟩
        · exact ⟨j, Nat.le_refl _, h0, fun k hk e => hc ⟨k, hk, e⟩⟩
    obtain ⟨i, hi, h1, h2⟩ := hex
    obtain ⟨a, b⟩ := T9.low_told (by rw [hl]; omega) h1 h2
    exact .inl ⟨i, by omega, h1, a, b, h2⟩
  · have hall : ∀ j, j < 960 → P.getD j 0 ≠ 0 := fun j hj e => h ⟨j, hj, e⟩
    obtain ⟨a, b⟩ := T9.low_full (P := P) (fun j hj => hall j (by rw [hl] at hj; exact hj))
    exact .inr ⟨a, b, hall⟩
theorem left_take {M : List Bool} (hk : M6.nextF M 0 false < M.length) : M6.leftF (M6.takeS M) + 1 = M6.leftF M := by
  have h := (M6.nextF_spec M 0 false (Nat.zero_le _)).2.2.2 hk
  unfold M6.takeS M6.leftF
  rw [if_pos hk]
  generalize M6.nextF M 0 false = i at hk h ⊢
  rw [List.getD_eq_getElem?_getD, List.getElem?_eq_getElem hk] at h
  have h' : M[i] = false := by simpa using h
  have hc : 0 < M.count false := List.count_pos_iff.2 (h' ▸ List.getElem_mem hk)
  rw [List.count_set hk, h']
  simp
  omega
/-- What a change of a transaction answers and leaves. -/
def Chg (w : World) (base : Nat) (k : Bk) (y : Bx) (n : Nat) (g : Pg) (V : Pgs) (N : Nat) (V2 : Pgs) (w' : World) : Prop := ∃ n' T', n' ≤ n + 1 ∧ TxV w' base k y n' g T' ∧ Over g T' V V2 N ∧ D5.Kp (footT y) w w'
/-- So, with how many sectors are free for it. -/
def ChgL (w : World) (base : Nat) (k : Bk) (y : Bx) (n : Nat) (g : Pg) (V : Pgs) (N : Nat) (V2 : Pgs) (z : Nat) (w' : World) : Prop := ∃ n' T', n' ≤ n + 1 ∧ TxV w' base k y n' g T' ∧ Over g T' V V2 N ∧ D5.Kp (footT y) w w' ∧ M6.leftF T'.m = z
theorem ChgL.chg {n z : Nat} {V2 : Pgs} {w' : World} (h : ChgL w base k y n g V N V2 z w') : Chg w base k y n g V N V2 w' := by
  obtain ⟨n', T', h1, h2, h3, h4, _⟩ := h
  exact ⟨n', T', h1, h2, h3, h4⟩
/-- New, whatever it answers: OK, ErrSpace, ErrFull. -/
theorem ov_newL (h : TxV w base k y n g T) (o : Over g T V V' N) (hT : M6.Tab w) (hn : n < 1000000) {kd : Nat} {b : ByteArray} (h1 : 1 ≤ kd) (h2 : kd ≤ 254) (h3 : b.size ≤ 240) :
    Calls Tryz.prog 27 #[.pointer (some ⟨y.x, 0, none⟩), .int .i64 (kd : Nat), .string b] w fun e w' =>
      (∃ p : Int, e = .returned (.tuple #[.int .i64 p, .int .i64 0]) ∧ V' p = none ∧ 1 ≤ p ∧ p ≤ 960 ∧ ChgL w base k y n g V N (upd V' p (kd, b)) (M6.leftF T.m - 1) w' ∧ M6.nextF T.m 0 false < T.m.length ∧ ∀ q : Int, 1 ≤ q → q < p → V' q ≠ none) ∨
      (e = .returned (.tuple #[.int .i64 0, .int .i64 11]) ∧ ChgL w base k y n g V N V' (M6.leftF T.m) w' ∧ ¬ M6.nextF T.m 0 false < T.m.length) ∨
      (e = .returned (.tuple #[.int .i64 0, .int .i64 15]) ∧ ChgL w base k y n g V N V' (M6.leftF T.m) w' ∧ ∀ j : Nat, j < 960 → V' ((j : Int) + 1) ≠ none) := by
  have hfit := o.tx.fit
  have hs := sealC_ok (k := (kd : Int)) (by omega) (by omega) h3
  rcases low_or_full hfit.1 with ⟨j, hj9, h0, hL, hE, hlow⟩ | ⟨hL, hE, hall⟩
  · have hX := o.noX hj9 h0
    refine (new_any h o.st.dead hn hT o.ml hs hj9 hL hE hX).mono fun e w' hh => ?_
    rcases hh with ⟨hk, e1, e2, e3⟩ | ⟨hk, e1, e2, e3⟩
    · refine .inl ⟨_, e1, ?_, by omega, by omega, ⟨n + 1, _, Nat.le_refl _, e2, ⟨o.st, ?_⟩, e3, ?_⟩, hk, fun q q1 q2 e => ?_⟩
      · have h4 := (o.has ((j : Int) + 1)).1 (by rw [T9.getF_nat _ _ hj9]; exact h0)
        exact h4
      · rw [sealT_ok h1 h2 h3]
        exact o.tx.putNew o.st.sto hj9 hX hk ⟨kd, b, rfl, h1, h2, h3, rfl⟩
      · have := left_take hk
        show M6.leftF (M6.takeS T.m) = M6.leftF T.m - 1
        omega
      · have h4 := (o.has q).2 e
        obtain ⟨i, rfl⟩ : ∃ i : Nat, q = (i : Int) + 1 := ⟨(q - 1).toNat, by omega⟩
        rw [T9.getF_nat _ _ (by omega)] at h4
        exact hlow i (by omega) h4
    · exact .inr (.inl ⟨e1, ⟨n, T, Nat.le_succ _, e2, o, e3, rfl⟩, hk⟩)
  · refine (new_full h o.st.dead hs hL hE).mono fun e w' hh => ?_
    obtain ⟨e1, e2, e3⟩ := hh
    refine .inr (.inr ⟨e1, ⟨n, T, Nat.le_succ _, e2, o, e3, rfl⟩, fun j hj e => ?_⟩)
    have h4 := (o.has ((j : Int) + 1)).2 e
    rw [T9.getF_nat _ _ hj] at h4
    exact hall j hj h4
theorem tab_gb {w W : World} (h : M6.Tab w) (g : w.grownBy W none) : M6.Tab W := h.keep0 g
theorem page64 {p : Int} (hp : T9.IsPage p) : In64 p := by have h1 := hp.1; have h2 := hp.2; constructor <;> omega
theorem ov_write (h : TxV w base k y n g T) (o : Over g T V V' N) (hT : M6.Tab w) (hn : n < 1000000) (p : Int) {kd : Nat} {b : ByteArray} (h1 : 1 ≤ kd) (h2 : kd ≤ 254) (h3 : b.size ≤ 240) :
    Calls Tryz.prog 18 #[.pointer (some ⟨y.x, 0, none⟩), .int .i64 p, .int .i64 (kd : Nat), .string b] w fun e w' =>
      (V' p ≠ none ∧ e = .returned (.int .i64 0) ∧ Chg w base k y n g V N (upd V' p (kd, b)) w') ∨
      (V' p ≠ none ∧ e = .returned (.int .i64 11) ∧ Chg w base k y n g V N V' w' ∧ ¬ M6.nextF T.m 0 false < T.m.length) ∨
      (V' p = none ∧ e = .returned (.int .i64 13) ∧ Chg w base k y n g V N V' w') := by
  by_cases hv : V' p = none
  · refine (write_none h o.st.dead ((o.has p).2 hv) _ _).mono fun e w' hh => ?_
    exact .inr (.inr ⟨hv, hh.1, n, T, Nat.le_succ _, hh.2.1, o, hh.2.2⟩)
  · have hpg := o.isPage hv
    have hp := page64 hpg
    have h0 : T9.getF T.t p ≠ 0 := fun e => hv ((o.has p).1 e)
    have hs := sealC_ok (k := (kd : Int)) (by omega) (by omega) h3
    obtain ⟨j, hj, rfl⟩ := isPage_cases hpg
    cases hX : T.X ((j : Int) + 1) with
    | some x =>
      obtain ⟨s, d0⟩ := x
      refine (write_put h o.st.dead h0 hs (fun W gW => put_old (h.keep0 gW) hn hp hX _)).mono fun e w' hh => ?_
      refine .inl ⟨hv, hh.1, n + 1, _, Nat.le_refl _, hh.2.1, ⟨o.st, ?_⟩, hh.2.2⟩
      rw [sealT_ok h1 h2 h3]
      exact o.tx.putOld hj hX ⟨kd, b, rfl, h1, h2, h3, rfl⟩
    | none =>
      by_cases hk : M6.nextF T.m 0 false < T.m.length
      · refine (write_put h o.st.dead h0 hs (fun W gW => put_new (h.keep0 gW) hn hp hX _ (hT.keep0 gW) o.ml hk)).mono fun e w' hh => ?_
        refine .inl ⟨hv, hh.1, n + 1, _, Nat.le_refl _, hh.2.1, ⟨o.st, ?_⟩, hh.2.2⟩
        rw [sealT_ok h1 h2 h3]
        exact o.tx.putNew o.st.sto hj hX hk ⟨kd, b, rfl, h1, h2, h3, rfl⟩
      · refine (write_put h o.st.dead h0 hs (fun W gW => put_full (h.keep0 gW) hp hX _ (hT.keep0 gW) o.ml hk)).mono fun e w' hh => ?_
        exact .inr (.inl ⟨hv, hh.1, ⟨n, T, Nat.le_succ _, hh.2.1, o, hh.2.2⟩, hk⟩)
theorem ov_drop (h : TxV w base k y n g T) (o : Over g T V V' N) (p : Int) :
    Calls Tryz.prog 19 #[.pointer (some ⟨y.x, 0, none⟩), .int .i64 p] w fun e w' =>
      (V' p ≠ none ∧ e = .returned (.int .i64 0) ∧ Chg w base k y n g V N (del V' p) w') ∨
      (V' p = none ∧ e = .returned (.int .i64 13) ∧ Chg w base k y n g V N V' w') := by
  by_cases hv : V' p = none
  · refine (drop_none h o.st.dead ((o.has p).2 hv)).mono fun e w' hh => ?_
    exact .inr ⟨hv, hh.1, n, T, Nat.le_succ _, hh.2.1, o, hh.2.2⟩
  · have hpg := o.isPage hv
    have hp := page64 hpg
    have h0 : T9.getF T.t p ≠ 0 := fun e => hv ((o.has p).1 e)
    obtain ⟨j, hj, rfl⟩ := isPage_cases hpg
    cases hX : T.X ((j : Int) + 1) with
    | some x =>
      obtain ⟨s, d0⟩ := x
      obtain ⟨_, q2, q3⟩ := o.tx.dropNew o.st.sto hj hX
      refine (drop_new h o.st.dead hp h0 hX o.ml q2).mono fun e w' hh => ?_
      exact .inl ⟨hv, hh.1, n, _, Nat.le_succ _, hh.2.1, ⟨o.st, q3⟩, hh.2.2⟩
    | none =>
      have h0' : T.t.P.getD j 0 ≠ 0 := by rw [T9.getF_nat _ _ hj] at h0; exact h0
      obtain ⟨q2, q3⟩ := o.tx.dropOld hj hX h0'
      refine (drop_old h o.st.dead hp h0 hX q2).mono fun e w' hh => ?_
      exact .inl ⟨hv, hh.1, n, _, Nat.le_succ _, hh.2.1, ⟨o.st, q3⟩, hh.2.2⟩
end
end Go.Proofs.YtliiooldlooagaaGreatDoor.J10

/-
  Commit in the words of the store: what it answers, and what counts then; over this seat's translation; conditions: those that each law states.
-/
namespace Go.Proofs.YtliiooldlooagaaGreatDoor.J10
open Go.RowKit Go.Maps
theorem Wrs.length_le {n : Nat} {m : List Bool} {ws : List (Int × ByteArray)} (h : Wrs n m ws) : ws.length ≤ n := by
  have hsub : (ws.map fun x => x.1.toNat).Nodup := by
    have hnd := h.nd
    unfold List.Nodup at hnd ⊢
    rw [List.pairwise_map] at hnd ⊢
    refine List.Pairwise.imp_of_mem ?_ hnd
    intro a b ha hb hab e
    obtain ⟨c, e1, _⟩ := h.each a ha
    obtain ⟨d, e2, _⟩ := h.each b hb
    apply hab
    have e' : a.1.toNat = b.1.toNat := e
    omega
  have hle := List.Nodup.length_le_of_subset (l₂ := List.range n) hsub (by
    intro x hx
    obtain ⟨y, hy, rfl⟩ := List.mem_map.1 hx
    obtain ⟨c, e1, _, h3, _⟩ := h.each y hy
    rw [List.mem_range, e1]
    simpa using h3)
  simpa using hle
theorem clean_same {g : Pg} {T : Tr} {V V' : Pgs} {N : Nat} (o : Over g T V V' N) (hD : T9.dirtyF T.t.D = []) : V' = V := by
  have hall : ∀ i, i < 8 → T.t.D.getD i false = false := by
    intro i hi
    cases e : T.t.D.getD i false with
    | false => rfl
    | true =>
      have : i ∈ T9.dirtyF T.t.D := List.mem_filter.2 ⟨List.mem_range.2 hi, e⟩
      rw [hD] at this; cases this
  funext p
  by_cases hp : T9.IsPage p
  · obtain ⟨j, hj, rfl⟩ := isPage_cases hp
    obtain ⟨e1, e2⟩ := o.tx.clean (j / 120) (by omega) (hall _ (by omega)) j hj rfl
    rcases o.tx.page j hj with ⟨s, d, e3, _⟩ | ⟨_, e3, e4⟩ | ⟨_, _, _, e4⟩
    · rw [e2] at e3; cases e3
    · rw [e4]
      rcases o.st.sto.page j hj with ⟨_, q2⟩ | ⟨q1, _⟩
      · exact q2.symm
      · rw [e1] at e3; exact absurd e3 q1
    · exact e4
  · rw [o.tx.outV p hp, o.st.sto.outV p hp]
/-- Where nothing comes of what waits, what stood there stands. -/
theorem boot_nil (s : D5.St) : (D5.bootS s []).secs = s.secs := by
  have h : ∀ n k, (D5.cameF [] n).getD k false = false := by
    intro n k
    unfold D5.cameF
    rw [List.getD_eq_getElem?_getD, List.getElem?_map]
    by_cases e : k < n
    · rw [List.getElem?_range e]; simp [D5.wentB]
    · rw [List.getElem?_eq_none (by simp; omega)]; simp
  have e : ∀ n m, D5.cameTo (D5.cameF [] n) m = [] := by
    intro n m
    unfold D5.cameTo
    rw [List.filter_eq_nil_iff]
    intro k _
    rw [h]
    simp
  show D5.afterF s.secs s.pend _ _ _ = s.secs
  unfold D5.afterF
  rw [e]
  rfl
theorem crash_none {s0 s1 : D5.St} {r : R8.Rt} {wh : Int} {t : T9.TB} {m : List Bool} {V : Pgs} {T : T9.TB} {M : List Bool} {X V' : Pgs} {s : PlanS} {rb : ByteArray} {N : Nat} (hs : Sto s0.secs r.cs t m V) (hr : Roots s0.secs r wh)
    (h : Txi s0.secs.length t m V T M X V') (hp : PlanI s0.secs.length T.P r.cs M (T9.dirtyF T.D) s) (hc : Crashed s0 s1 (wrF T.P X ++ s.ws) (toN wh) rb) (_ : s1.Ok N) : Opens (D5.bootS s1 []).secs V := by
  have hw := h.wrs hs hp
  have hlaid := D5.laidF_length (wrF T.P X ++ s.ws) s0.secs
  have hold := hs.keeps hw
  have hoff : ∀ k, k < 2 → secAt (D5.laidF (wrF T.P X ++ s.ws) s0.secs) k = secAt s0.secs k := by
    intro k hk
    refine laid_off k _ _ fun x hx => ?_
    obtain ⟨c, e, h2, _⟩ := hw.each x hx
    exact ⟨c, e, by omega⟩
  have hr1 : Roots (D5.laidF (wrF T.P X ++ s.ws) s0.secs) r wh := hr.frame hlaid (hoff 0 (by omega)) (hoff 1 (by omega))
  rw [boot_nil]
  rcases hc with ⟨h1, _⟩ | ⟨h1, _⟩
  · rw [h1]; exact ⟨r, wh, t, m, hr.picks, hs⟩
  · rw [h1]; exact ⟨r, wh, t, m, hr1.picks, hold⟩
/-- What a Commit answers and leaves. -/
def ComO (w : World) (base : Nat) (k : Bk) (y : Bx) (g : Pg) (T : Tr) (V V' : Pgs) (N : Nat) (e : Ending) (w' : World) : Prop :=
  ∃ c k' g', e = .returned (.int .i64 c) ∧ k'.p = k.p ∧ k'.dp = k.dp ∧ PgV w' base k' g' ∧ g'.busy = false ∧ OverB w' y.x ∧ (∀ i, footG k' i → footX k y i ∨ w.heap.size ≤ i) ∧ D5.Kp (footX k y) w w' ∧
    ((c = 0 ∧ Stands g' V' (N + 1100) ∧ ((g'.r.e = g.r.e ∧ V' = V) ∨ g'.r.e = g.r.e + 1) ∧ (T9.dirtyF T.t.D = [] ∨ ¬ cutAt g.d 2) ∧ (g.d.armed = false → g'.d.armed = false) ∧ g'.d.secs.length = g.d.secs.length) ∨
     (c = 11 ∧ Stands g' V N ∧ g'.r.e = g.r.e ∧ planTo T.t.P ⟨g.r.cs, T.m, []⟩ (T9.dirtyF T.t.D) = none ∧ g'.d = g.d) ∨
     (c = 10 ∧ g.d.armed = true ∧ g'.dead = true ∧ g'.d.Ok (N + 1100) ∧ (∀ cs, Opens (D5.bootS g'.d cs).secs V ∨ Opens (D5.bootS g'.d cs).secs V') ∧ Opens (D5.bootS g'.d []).secs V))
set_option maxRecDepth 100000 in
set_option maxHeartbeats 1000000 in
theorem ov_commit {w : World} {base n N : Nat} {k : Bk} {y : Bx} {g : Pg} {T : Tr} {V V' : Pgs} (h : TxV w base k y n g T) (o : Over g T V V' N) (hE : Env w) (b5 : 4 ≤ base) (hb : base ≤ w.heap.size) (hN : N ≤ 880000) (hre : g.r.e < 999999) :
    Calls Tryz.prog 13 #[.pointer (some ⟨y.x, 0, none⟩)] w (ComO w base k y g T V V' N) := by
  have hs := o.st.sto
  have hn1 := hs.n1
  have hn2 := hs.n2
  have hA : ComA w base k y n g T N := ⟨h, o.st.dead, b5, hE.tab, hE.pl, hb, o.st.fit, o.ml, hn1, by omega, o.st.off, o.st.pend, o.st.ok⟩
  by_cases hD : T9.dirtyF T.t.D = []
  · refine (commit_clean hA hD).mono fun e w' hh => ?_
    obtain ⟨e1, e2, e3, e4⟩ := hh
    have hvv := clean_same o hD
    have hst := (o.st.busy false)
    refine ⟨0, k, _, e1, rfl, rfl, e2, rfl, e3, fun i hi => .inl (.inl hi), e4, .inl ⟨rfl, ?_, .inl ⟨rfl, hvv⟩, .inl hD, fun h => h, rfl⟩⟩
    rw [hvv]
    exact ⟨hst.sto, hst.roots, hst.off, hst.pend, hst.ok.more (by omega), hst.dead, hst.re⟩
  · cases hP : planTo T.t.P ⟨g.r.cs, T.m, []⟩ (T9.dirtyF T.t.D) with
    | none =>
      refine (commit_full hA hD hP).mono fun e w' hh => ?_
      obtain ⟨e1, e2, e3, e4⟩ := hh
      exact ⟨11, k, _, e1, rfl, rfl, e2, rfl, e3, fun i hi => .inl (.inl hi), e4, .inr (.inl ⟨rfl, o.st.busy false, rfl, hP, rfl⟩)⟩
    | some s =>
      have hpl := o.tx.plan hs hP
      have hw := o.tx.wrs hs hpl
      have hnew := hs.commit o.tx hpl
      have hlaid := D5.laidF_length (wrF T.t.P T.X ++ s.ws) g.d.secs
      have hok : PlanOk g.d.secs.length T.t.P s := ⟨hnew.len, hnew.pos, (used_nodup _ _).2 hnew.apart, fun x hx => by have := hnew.inn x hx; rw [hlaid] at this; exact this⟩
      have hgood := newR_good hnew g.r o.st.re
      rw [hlaid] at hgood
      have hll := hw.length_le
      obtain ⟨rb, hrb⟩ : ∃ rb : ByteArray, rb.data.toList = R8.putL (newR g.r g.d.secs.length s.cs) := ⟨⟨(R8.putL (newR g.r g.d.secs.length s.cs)).toArray⟩, by simp⟩
      refine (commit_lay hA hD hP hok ⟨_, hw⟩ hgood hrb (by omega)).mono fun e w' hh => ?_
      obtain ⟨c, k', g', e1, e2, e2d, e3, e4, e5, e6, e7⟩ := hh
      refine ⟨c, k', _, e1, e2, e2d, e3, rfl, e4, e5, e6, ?_⟩
      rcases e7 with ⟨hcut, rfl, s1, hc, hoff, hok1, rfl⟩ | ⟨hcut, rfl, hok1, rfl⟩
      · refine .inr (.inr ⟨rfl, hcut.1, rfl, hok1.more (by omega), fun cs => crash hs o.st.roots o.st.re o.tx hpl hrb hc hok1 cs, crash_none hs o.st.roots o.tx hpl hc hok1⟩)
      · have hoff : ∀ q, q < 2 → secAt (D5.laidF (wrF T.t.P T.X ++ s.ws) g.d.secs) q = secAt g.d.secs q := by
          intro q hq
          refine laid_off q _ _ fun x hx => ?_
          obtain ⟨c, e, h2, _⟩ := hw.each x hx
          exact ⟨c, e, by omega⟩
        have hr1 : Roots (D5.laidF (wrF T.t.P T.X ++ s.ws) g.d.secs) g.r g.wh := o.st.roots.frame hlaid (hoff 0 (by omega)) (hoff 1 (by omega))
        have hrb' : rb.data.toList = R8.putL (newR g.r (D5.laidF (wrF T.t.P T.X ++ s.ws) g.d.secs).length s.cs) := by rw [hlaid]; exact hrb
        have hrz : rb.size = 256 := by rw [ba_size hrb]; exact R8.putL_length _ hnew.len
        have hto2 : toN g.wh < 2 := by unfold toN; split <;> omega
        have hnx := Roots.next (ss2 := g.d.secs) hnew hr1 o.st.re rb hrb'
        rw [hlaid, toN_is] at hnx
        have hst := hnew.set01 (toN g.wh) hto2 rb hrz
        refine .inl ⟨rfl, ⟨?_, hnx, rfl, rfl, hok1.more (by omega), o.st.dead, ?_⟩, .inr ?_, .inr (fun hc => hcut (cut_more hc (by omega))), fun h => h, by show ((D5.laidF (wrF T.t.P T.X ++ s.ws) g.d.secs).set (toN g.wh) rb).length = _; rw [List.length_set, hlaid]⟩
        · have hm : marks (D5.laidF (wrF T.t.P T.X ++ s.ws) g.d.secs).length (usedL s.cs T.t.P) = marks g.d.secs.length (usedL s.cs T.t.P) := by rw [hlaid]
          exact hst
        · show (newR g.r g.d.secs.length s.cs).e < 1000000
          rw [newR_e _ _ _ o.st.re]; omega
        · exact newR_e _ _ _ o.st.re
end Go.Proofs.YtliiooldlooagaaGreatDoor.J10

/-
  A new disk is a store without pages; and a store that opens; over this seat's translation; conditions: those that each law states.
-/
namespace Go.Proofs.YtliiooldlooagaaGreatDoor.J10
open Go.RowKit Go.Maps
theorem sec_new {n k : Nat} (h : k < n) : secAt (D5.newS n).secs k = D5.noB := by
  show (List.replicate n D5.noB).getD k _ = _
  rw [List.getD_eq_getElem?_getD, List.getElem?_replicate, if_pos h]; rfl
theorem Sto.fresh {n : Nat} (h1 : 64 ≤ n) (h2 : n ≤ 1024) : Sto (D5.newS n).secs R8.zeroR.cs T9.newF (marks n (usedL R8.zeroR.cs T9.newF.P)) (fun _ => none) := by
  have hl : (D5.newS n).secs.length = n := List.length_replicate
  have hz : ∀ j, T9.newF.P.getD j 0 = 0 := by
    intro j
    show (List.replicate 960 0).getD j 0 = 0
    rw [List.getD_eq_getElem?_getD, List.getElem?_replicate]
    split <;> rfl
  have hc : ∀ i, cN R8.zeroR.cs i = 0 := by
    intro i
    show ((List.replicate 8 (0 : Int)).getD i 0).toNat = 0
    rw [List.getD_eq_getElem?_getD, List.getElem?_replicate]
    split <;> rfl
  refine ⟨by omega, by omega, (D5.newS_ok n (by omega)).whole, T9.newF_fit, rfl, rfl, fun i _ => ?_, ⟨fun i j _ _ _ e => absurd (hz i) e, fun i j _ _ _ e => absurd (by rw [cN_map]; exact hc i) e, fun j _ e => by rw [hz] at e; omega, fun i _ e => by rw [hc] at e; omega, fun j i _ _ e => absurd (hz j) e⟩, fun x hx => ?_, by rw [hl], fun i _ => .inl ⟨hc i, fun j _ _ => hz j⟩, fun j _ => .inl ⟨hz j, rfl⟩, fun _ _ => rfl⟩
  · show (0 : Int) ≤ (List.replicate 8 (0 : Int)).getD i 0
    rw [List.getD_eq_getElem?_getD, List.getElem?_replicate]
    split <;> simp
  · rw [hl]
    rcases mem_used.1 hx with ⟨h0, j, _, e⟩ | rfl | rfl | ⟨h0, i, _, e⟩
    · rw [hz] at e; exact absurd e.symm h0
    · omega
    · omega
    · rw [hc] at e; exact absurd e.symm h0
theorem Roots.fresh {n : Nat} (h1 : 64 ≤ n) : Roots (D5.newS n).secs R8.zeroR (-1) := by
  have e : D5.noB.data.toList = R8.zer 256 := rfl
  refine .inl ⟨rfl, rfl, ?_, ?_⟩
  · unfold bytesAt; rw [sec_new (by omega), e]
  · unfold bytesAt; rw [sec_new (by omega), e]
/-- A pager whose pages can be read. -/
structure Shows (g : Pg) (V : Pgs) (N : Nat) : Prop where
  sto : Sto g.d.secs g.r.cs g.t g.m V
  idle : Idle g.d
  ok : g.d.Ok N
  dead : g.dead = false
theorem Stands.shows {g : Pg} {V : Pgs} {N : Nat} (h : Stands g V N) (ha : g.d.armed = false) : Shows g V N := ⟨h.sto, ⟨h.off, ha, h.pend⟩, h.ok, h.dead⟩
/-- Open, in the words of the store. -/
def OpenO (w : World) (base N : Nat) (F : Nat → Prop) (p : Nat) (s : D5.St) (V : Pgs) (e : Ending) (w' : World) : Prop :=
  ∃ k g, e = .returned (.tuple #[.pointer (some ⟨k.p, 0, none⟩), .int .i64 0]) ∧ PgV w' base k g ∧ Shows g V (N + 10) ∧ g.busy = false ∧ g.d.secs = s.secs ∧ k.dp = p ∧ (∀ i, footG k i → F i ∨ w.heap.size ≤ i) ∧ D5.Kp F w w'
theorem ov_open {w : World} {base N : Nat} {F : Nat → Prop} {p : Nat} {s : D5.St} {V : Pgs} (hP : D5.PD w base F p s) (hi : Idle s) (hok : s.Ok N) (hN : N ≤ 880000) (ho : Opens s.secs V) (hE : Env w) (hb : base ≤ w.heap.size) (hF : ∀ i, F i → 4 ≤ i ∧ i < w.heap.size) :
    Calls Tryz.prog 22 #[.pointer (some ⟨p, 0, none⟩)] w (OpenO w base N F p s V) := by
  obtain ⟨r, wh, t, m, hr, hs⟩ := ho
  refine (open_any hP hi hok hN hr hs hE.pl hE.hd hb hF).mono fun e w' hh => ?_
  obtain ⟨k, q, e1, hq, hp, hok', e2, hf, hk⟩ := hh
  exact ⟨k, _, e1, hp, ⟨hs, ⟨rfl, hi.2.1, rfl⟩, hok'.more (by omega), rfl⟩, rfl, rfl, e2, hf, hk⟩
/-- Open, on a new disk. -/
theorem ov_fresh {w : World} {base n : Nat} {F : Nat → Prop} {p : Nat} (hP : D5.PD w base F p (D5.newS n)) (h1 : 64 ≤ n) (h2 : n ≤ 1024) (hE : Env w) (hb : base ≤ w.heap.size) (hF : ∀ i, F i → 4 ≤ i ∧ i < w.heap.size) :
    Calls Tryz.prog 22 #[.pointer (some ⟨p, 0, none⟩)] w fun e w' => ∃ k g, e = .returned (.tuple #[.pointer (some ⟨k.p, 0, none⟩), .int .i64 0]) ∧ PgV w' base k g ∧ Stands g (fun _ => none) 10 ∧ g.busy = false ∧ g.d.armed = false ∧ g.d.secs = (D5.newS n).secs ∧ g.r.e = 0 ∧ g.t = T9.newF ∧ g.m = marks n (usedL R8.zeroR.cs T9.newF.P) ∧ g.r.cs = R8.zeroR.cs ∧ k.dp = p ∧ (∀ i, footG k i → F i ∨ w.heap.size ≤ i) ∧ D5.Kp F w w' := by
  have hi : Idle (D5.newS n) := ⟨rfl, rfl, rfl⟩
  refine (open_any hP hi (D5.newS_ok n (by omega)) (by omega) (Roots.fresh h1).picks (Sto.fresh h1 h2) hE.pl hE.hd hb hF).mono fun e w' hh => ?_
  obtain ⟨k, q, e1, hq, hp, hok', e2, hf, hk⟩ := hh
  exact ⟨k, _, e1, hp, ⟨Sto.fresh h1 h2, Roots.fresh h1, rfl, rfl, hok'.more (by omega), rfl, (show (0 : Nat) < 1000000 by decide)⟩, rfl, rfl, rfl, rfl, rfl, rfl, rfl, e2, hf, hk⟩
end Go.Proofs.YtliiooldlooagaaGreatDoor.J10

/-
  The law's acts upon a transaction (lay): how acts lie in memory, and the calls' answers one by one; over this seat's translation; conditions: those that each law states.
-/
namespace Go.Proofs.YtliiooldlooagaaGreatDoor.J10
open Go.RowKit Go.Maps
/-- An act. -/
structure Ac where
  what : UInt8
  page : UInt8
  letter : UInt8
  long : UInt8
def acC1 (x : Ac) : List Value := [.int .u8 (x.what.toNat : Nat), .int .u8 (x.page.toNat : Nat), .int .u8 (x.letter.toNat : Nat), .int .u8 (x.long.toNat : Nat)]
def acsC (l : List Ac) : List Value := l.flatMap acC1
theorem acsC_length : ∀ l : List Ac, (acsC l).length = l.length * 4
  | [] => rfl
  | x :: l => by
    have ih := acsC_length l
    unfold acsC at ih ⊢
    rw [List.flatMap_cons, List.length_append, ih]
    show 4 + _ = (l.length + 1) * 4
    omega
theorem acsC_at : ∀ (l : List Ac) (k : Nat) (hk : k < l.length) (j : Nat) (_ : j < 4), (acsC l)[k * 4 + j]? = (acC1 l[k])[j]?
  | [], _, hk, _, _ => by simp at hk
  | x :: l, 0, _, j, hj => by
    unfold acsC
    rw [List.flatMap_cons, Nat.zero_mul, Nat.zero_add, List.getElem?_append_left (by show j < 4; exact hj)]
    rfl
  | x :: l, k + 1, hk, j, hj => by
    have ih := acsC_at l k (by simpa using hk) j hj
    unfold acsC at ih ⊢
    rw [List.flatMap_cons, List.getElem?_append_right (by show 4 ≤ _; omega)]
    rw [show (k + 1) * 4 + j - (acC1 x).length = k * 4 + j by show _ - 4 = _; omega, ih]
    rfl
/-- Acts in memory, as a slice. -/
def Acs (w : World) (v : Value) (l : List Ac) : Prop := Sl 4 w v l.length (acsC l)
theorem gb_kp {F : Nat → Prop} {w0 w w' : World} (g : w0.grownBy w none) (k : D5.Kp F w w') (hF : ∀ i, F i → w0.heap.size ≤ i) : w0.grownBy w' none :=
  ((D5.Kp.of0 (F := fun i => w0.heap.size ≤ i) g).trans (k.mono hF)).gb fun _ h => .inr h
section
variable {w : World} {base n N : Nat} {k : Bk} {y : Bx} {g : Pg} {T : Tr} {V V' : Pgs}
/-- Some page is left. -/
def Spare (V : Pgs) : Prop := ∃ j : Nat, j < 960 ∧ V ((j : Int) + 1) = none
theorem new_is (h : TxV w base k y n g T) (o : Over g T V V' N) (hT : M6.Tab w) (hn : n < 1000000) {kd : Nat} {b : ByteArray} (h1 : 1 ≤ kd) (h2 : kd ≤ 254) (h3 : b.size ≤ 240) (hk : M6.nextF T.m 0 false < T.m.length) (hsp : Spare V') :
    Calls Tryz.prog 27 #[.pointer (some ⟨y.x, 0, none⟩), .int .i64 (kd : Nat), .string b] w fun e w' =>
      ∃ p : Int, e = .returned (.tuple #[.int .i64 p, .int .i64 0]) ∧ V' p = none ∧ 1 ≤ p ∧ p ≤ 960 ∧ ChgL w base k y n g V N (upd V' p (kd, b)) (M6.leftF T.m - 1) w' ∧ ∀ q : Int, 1 ≤ q → q < p → V' q ≠ none :=
  (ov_newL h o hT hn h1 h2 h3).mono fun e w' hh => by
    rcases hh with ⟨p, e1, e2, e3, e4, e5, _, e6⟩ | ⟨_, _, e3⟩ | ⟨_, _, e3⟩
    · exact ⟨p, e1, e2, e3, e4, e5, e6⟩
    · exact absurd hk e3
    · obtain ⟨j, hj, e⟩ := hsp; exact absurd e (e3 j hj)
theorem new_non (h : TxV w base k y n g T) (o : Over g T V V' N) (hT : M6.Tab w) (hn : n < 1000000) {kd : Nat} {b : ByteArray} (h1 : 1 ≤ kd) (h2 : kd ≤ 254) (h3 : b.size ≤ 240) (hk : ¬ M6.nextF T.m 0 false < T.m.length) (hsp : Spare V') :
    Calls Tryz.prog 27 #[.pointer (some ⟨y.x, 0, none⟩), .int .i64 (kd : Nat), .string b] w fun e w' =>
      e = .returned (.tuple #[.int .i64 0, .int .i64 11]) ∧ ChgL w base k y n g V N V' (M6.leftF T.m) w' :=
  (ov_newL h o hT hn h1 h2 h3).mono fun e w' hh => by
    rcases hh with ⟨p, _, _, _, _, _, e6, _⟩ | ⟨e1, e2, _⟩ | ⟨_, _, e3⟩
    · exact absurd e6 hk
    · exact ⟨e1, e2⟩
    · obtain ⟨j, hj, e⟩ := hsp; exact absurd e (e3 j hj)
theorem write_is (h : TxV w base k y n g T) (o : Over g T V V' N) (hT : M6.Tab w) (hn : n < 1000000) (p : Int) {kd : Nat} {b : ByteArray} (h1 : 1 ≤ kd) (h2 : kd ≤ 254) (h3 : b.size ≤ 240) (hp : V' p ≠ none) :
    Calls Tryz.prog 18 #[.pointer (some ⟨y.x, 0, none⟩), .int .i64 p, .int .i64 (kd : Nat), .string b] w fun e w' =>
      (e = .returned (.int .i64 0) ∧ Chg w base k y n g V N (upd V' p (kd, b)) w') ∨ (e = .returned (.int .i64 11) ∧ Chg w base k y n g V N V' w') :=
  (ov_write h o hT hn p h1 h2 h3).mono fun e w' hh => by
    rcases hh with ⟨_, e1, e2⟩ | ⟨_, e1, e2, _⟩ | ⟨e0, _, _⟩
    · exact .inl ⟨e1, e2⟩
    · exact .inr ⟨e1, e2⟩
    · exact absurd e0 hp
theorem write_room (h : TxV w base k y n g T) (o : Over g T V V' N) (hT : M6.Tab w) (hn : n < 1000000) (p : Int) {kd : Nat} {b : ByteArray} (h1 : 1 ≤ kd) (h2 : kd ≤ 254) (h3 : b.size ≤ 240) (hp : V' p ≠ none) (hk : M6.nextF T.m 0 false < T.m.length) :
    Calls Tryz.prog 18 #[.pointer (some ⟨y.x, 0, none⟩), .int .i64 p, .int .i64 (kd : Nat), .string b] w fun e w' =>
      e = .returned (.int .i64 0) ∧ Chg w base k y n g V N (upd V' p (kd, b)) w' :=
  (ov_write h o hT hn p h1 h2 h3).mono fun e w' hh => by
    rcases hh with ⟨_, e1, e2⟩ | ⟨_, _, _, e3⟩ | ⟨e0, _, _⟩
    · exact ⟨e1, e2⟩
    · exact absurd hk e3
    · exact absurd e0 hp
theorem write_non (h : TxV w base k y n g T) (o : Over g T V V' N) (hT : M6.Tab w) (hn : n < 1000000) (p : Int) {kd : Nat} {b : ByteArray} (h1 : 1 ≤ kd) (h2 : kd ≤ 254) (h3 : b.size ≤ 240) (hp : V' p = none) :
    Calls Tryz.prog 18 #[.pointer (some ⟨y.x, 0, none⟩), .int .i64 p, .int .i64 (kd : Nat), .string b] w fun e w' =>
      e = .returned (.int .i64 13) ∧ Chg w base k y n g V N V' w' :=
  (ov_write h o hT hn p h1 h2 h3).mono fun e w' hh => by
    rcases hh with ⟨e0, _, _⟩ | ⟨e0, _, _⟩ | ⟨_, e1, e2⟩
    · exact absurd hp e0
    · exact absurd hp e0
    · exact ⟨e1, e2⟩
theorem drop_is (h : TxV w base k y n g T) (o : Over g T V V' N) (p : Int) (hp : V' p ≠ none) :
    Calls Tryz.prog 19 #[.pointer (some ⟨y.x, 0, none⟩), .int .i64 p] w fun e w' => e = .returned (.int .i64 0) ∧ Chg w base k y n g V N (del V' p) w' :=
  (ov_drop h o p).mono fun e w' hh => by
    rcases hh with ⟨_, e1, e2⟩ | ⟨e0, _, _⟩
    · exact ⟨e1, e2⟩
    · exact absurd e0 hp
theorem drop_non (h : TxV w base k y n g T) (o : Over g T V V' N) (p : Int) (hp : V' p = none) :
    Calls Tryz.prog 19 #[.pointer (some ⟨y.x, 0, none⟩), .int .i64 p] w fun e w' => e = .returned (.int .i64 13) ∧ Chg w base k y n g V N V' w' :=
  (ov_drop h o p).mono fun e w' hh => by
    rcases hh with ⟨e0, _, _⟩ | ⟨_, e1, e2⟩
    · exact absurd hp e0
    · exact ⟨e1, e2⟩
end
theorem del_none {f : Pgs} {p : Int} (h : f p = none) : del f p = f := by
  funext q
  unfold del
  by_cases e : q = p
  · rw [if_pos e, e, h]
  · rw [if_neg e]
/-- What stands in a map, and whether anything does. -/
theorem Mp.look {w : World} {b n : Nat} {f : Pgs} {t e : TypeId} (h : Mp w b n f) (T : PairT t e) {i : Int} (hi : In64 i) :
    ∃ (q : Nat) (s : ByteArray) (is : Bool), (is = true ↔ f i ≠ none) ∧ (Instr.lookup t (.map (some b)) (.int .i64 i) true).run Tryz.prog w = .ok (.tuple #[.agg #[.int .i64 (q : Nat), .string s], .bool is]) w := by
  cases hx : f i with
  | none => exact ⟨0, noE, false, by simp, Mp.lookNo h T hi hx⟩
  | some x => exact ⟨x.1, x.2, true, by simp, Mp.lookYes h T hi hx⟩
end Go.Proofs.YtliiooldlooagaaGreatDoor.J10

/-
  How many pages stand, how many sectors are free then, and when a plan has room, as plain mathematics; conditions: those that each law states.
-/
namespace Go.Proofs.YtliiooldlooagaaGreatDoor.J10
open Go.RowKit
/-- All pages are of the first chunk. -/
def Low (V : Pgs) : Prop := ∀ p, V p ≠ none → p ≤ 120
theorem low_upd {V : Pgs} (h : Low V) {p : Int} (hp : p ≤ 120) (x : Nat × ByteArray) : Low (upd V p x) := fun q hq => by
  by_cases e : q = p
  · subst e; exact hp
  · rw [upd_off _ _ e] at hq; exact h q hq
theorem low_del {V : Pgs} (h : Low V) (p : Int) : Low (del V p) := fun q hq => by
  by_cases e : q = p
  · subst e; rw [del_same] at hq; exact absurd rfl hq
  · rw [del_off _ e] at hq; exact h q hq
/-- How many pages stand. -/
def cntV (V : Pgs) : Nat := (List.range 960).countP fun j : Nat => (V ((j : Int) + 1)).isSome
theorem cntV_zero {V : Pgs} : cntV V = 0 ↔ ∀ j : Nat, j < 960 → V ((j : Int) + 1) = none := by
  unfold cntV
  rw [List.countP_eq_zero]
  constructor
  · intro h j hj
    have := h j (List.mem_range.2 hj)
    simpa using this
  · intro h j hj
    rw [h j (List.mem_range.1 hj)]
    simp
theorem cntV_mono {V W : Pgs} (h : ∀ j : Nat, j < 960 → V ((j : Int) + 1) ≠ none → W ((j : Int) + 1) ≠ none) : cntV V ≤ cntV W := by
  unfold cntV
  refine List.countP_mono_left fun j hj hv => ?_
  have := h j (List.mem_range.1 hj) (by intro e; rw [e] at hv; cases hv)
  exact Option.isSome_iff_ne_none.2 this
theorem countP_lt (i : Nat) : ∀ n : Nat, (List.range n).countP (fun j => decide (j < i)) = min n i
  | 0 => by simp
  | n + 1 => by
    rw [List.range_succ, List.countP_append, countP_lt i n]
    by_cases h : n < i
    · simp [h]; omega
    · simp [h]; omega
theorem cntV_first {V : Pgs} {i : Nat} (hi : i ≤ 960) (h : ∀ j : Nat, j < 960 → (V ((j : Int) + 1) ≠ none ↔ j < i)) : cntV V = i := by
  have e : cntV V = (List.range 960).countP (fun j => decide (j < i)) := by
    unfold cntV
    refine List.countP_congr fun j hj => ?_
    rw [Option.isSome_iff_ne_none, decide_eq_true_eq]
    exact h j (List.mem_range.1 hj)
  rw [e, countP_lt]
  omega
theorem filter_idx (P : List Nat) : (P.filter (· != 0)).length = (List.range P.length).countP fun j => P.getD j 0 != 0 := by
  have e : (List.range P.length).map (fun j => P.getD j 0) = P := by
    apply List.ext_getElem
    · simp
    · intro i h1 h2
      simp [List.getD_eq_getElem?_getD, h2]
  have h : (((List.range P.length).map fun j => P.getD j 0).filter (· != 0)).length = (List.range P.length).countP fun j => P.getD j 0 != 0 := by
    rw [List.filter_map, List.length_map, ← List.countP_eq_length_filter]
    rfl
  rw [e] at h
  exact h
section
variable {ss : List ByteArray} {cs : List Int} {t : T9.TB} {m : List Bool} {V : Pgs}
theorem Sto.pages (hs : Sto ss cs t m V) : (T9.secsF t.P).length = cntV V := by
  unfold T9.secsF cntV
  rw [filter_idx, hs.fit.1]
  refine List.countP_congr fun j hj => ?_
  rcases hs.page j (List.mem_range.1 hj) with ⟨h1, h2⟩ | ⟨h1, kd, b, h2, _⟩
  · rw [h1, h2]; simp
  · rw [h2]; simpa using h1
/-- Where all pages are of the first chunk. -/
theorem Sto.chunks (hs : Sto ss cs t m V) (hl : ∀ p, V p ≠ none → p ≤ 120) : (chunkL cs).length = if cntV V = 0 then 0 else 1 := by
  unfold chunkL
  rw [filter_idx, List.length_map, hs.len]
  have hz : ∀ i, 1 ≤ i → i < 8 → cN cs i = 0 := by
    intro i h1 h8
    rcases hs.chunk i h8 with ⟨h, _⟩ | ⟨_, ⟨j, hj, hji, h0⟩, _⟩
    · exact h
    · rcases hs.page j hj with ⟨e, _⟩ | ⟨_, kd, b, e, _⟩
      · exact absurd e h0
      · have := hl _ (by rw [e]; exact fun h => by cases h)
        omega
  have h0 : cN cs 0 = 0 ↔ cntV V = 0 := by
    rw [cntV_zero]
    rcases hs.chunk 0 (by omega) with ⟨h, hn⟩ | ⟨h, ⟨j, hj, hji, hp⟩, _⟩
    · refine ⟨fun _ j hj => ?_, fun _ => h⟩
      by_cases h9 : j / 120 = 0
      · rcases hs.page j hj with ⟨_, e⟩ | ⟨e, _⟩
        · exact e
        · exact absurd (hn j hj h9) e
      · rcases hs.page j hj with ⟨_, e⟩ | ⟨_, kd, b, e, _⟩
        · exact e
        · have := hl _ (by rw [e]; exact fun h => by cases h)
          omega
    · refine ⟨fun e => absurd e h, fun e => ?_⟩
      rcases hs.page j hj with ⟨e2, _⟩ | ⟨_, kd, b, e2, _⟩
      · exact absurd e2 hp
      · rw [e j hj] at e2; cases e2
  have hc : (List.range 8).countP (fun j => (cs.map Int.toNat).getD j 0 != 0) = (List.range 8).countP (fun j => j == 0 && decide (cntV V ≠ 0)) := by
    refine List.countP_congr fun j hj => ?_
    rw [cN_map]
    have hj8 := List.mem_range.1 hj
    by_cases e : j = 0
    · subst e
      by_cases q : cntV V = 0
      · rw [h0.2 q]; simp [q]
      · have : cN cs 0 ≠ 0 := fun e => q (h0.1 e)
        simp [q, this]
    · rw [hz j (by omega) hj8]; simp [e]
  rw [hc]
  by_cases q : cntV V = 0
  · rw [if_pos q]; simp [q]
  · rw [if_neg q]; simp only [q, ne_eq, not_false_eq_true, decide_true, Bool.and_true]; decide
theorem Sto.left (hs : Sto ss cs t m V) (hl : ∀ p, V p ≠ none → p ≤ 120) : M6.leftF m + 2 + (if cntV V = 0 then 0 else 1) + cntV V = ss.length := by
  have h := left_marks ss.length (usedL cs t.P) ((used_nodup cs t.P).2 hs.apart) hs.inn
  rw [← hs.map] at h
  have e : (usedL cs t.P).length = cntV V + (2 + (chunkL cs).length) := by
    unfold usedL
    rw [List.length_append, List.length_append, hs.pages]
    rfl
  rw [hs.chunks hl] at e
  omega
theorem fm_length {α β : Type} (f : α → Option β) : ∀ l : List α, (l.filterMap f).length = l.countP fun a => (f a).isSome
  | [] => rfl
  | a :: l => by
    have ih := fm_length f l
    cases h : f a with
    | none => rw [List.filterMap_cons_none h, ih, List.countP_cons_of_neg (by rw [h]; simp)]
    | some b => rw [List.filterMap_cons_some h, List.length_cons, ih, List.countP_cons_of_pos (by rw [h]; simp)]
/-- What is left for a transaction. -/
theorem Txi.left {T : T9.TB} {M : List Bool} {X V' : Pgs} (hs : Sto ss cs t m V) (h : Txi ss.length t m V T M X V') : M6.leftF M + cntV X = M6.leftF m := by
  obtain ⟨L, hL⟩ : ∃ L, L = (List.range 960).filterMap fun j : Nat => (X ((j : Int) + 1)).map (·.1) := ⟨_, rfl⟩
  have hmem : ∀ k, k ∈ L ↔ ∃ p d, X p = some (k, d) := by
    intro k
    rw [hL, List.mem_filterMap]
    constructor
    · rintro ⟨j, hj, e⟩
      cases hx : X ((j : Int) + 1) with
      | none => rw [hx] at e; cases e
      | some x => rw [hx] at e; simp at e; exact ⟨_, x.2, by rw [hx, ← e]⟩
    · rintro ⟨p, d, e⟩
      have hp : T9.IsPage p := by
        by_cases hp : T9.IsPage p
        · exact hp
        · rw [h.outX p hp] at e; cases e
      obtain ⟨j, hj, rfl⟩ := isPage_cases hp
      exact ⟨j, List.mem_range.2 hj, by rw [e]; rfl⟩
  have hfree : ∀ k, k ∈ L → k < ss.length ∧ m.getD k false = false := by
    intro k hk
    obtain ⟨p, d, e⟩ := (hmem k).1 hk
    obtain ⟨j, hj, rfl, _, _, h4, h5, _⟩ := Txi.texts h e
    exact ⟨h4, h5⟩
  have hnd : L.Nodup := by
    rw [hL]
    unfold List.Nodup
    rw [List.pairwise_filterMap]
    refine List.Pairwise.imp_of_mem ?_ List.nodup_range
    intro a b ha hb hab k hk k' hk' e
    subst e
    cases hx : X ((a : Int) + 1) with
    | none => rw [hx] at hk; cases hk
    | some x =>
      cases hy : X ((b : Int) + 1) with
      | none => rw [hy] at hk'; cases hk'
      | some z =>
        rw [hx] at hk
        rw [hy] at hk'
        simp at hk hk'
        have := h.inj _ _ k x.2 z.2 (by rw [hx, ← hk]) (by rw [hy, ← hk'])
        omega
  have hU := (used_nodup cs t.P).2 hs.apart
  have hM : M = marks ss.length (usedL cs t.P ++ L) := by
    refine ext_bool (by rw [h.len, marks_length]) fun k hk => ?_
    rw [h.len] at hk
    rw [marks_get]
    have h1 := h.mark k hk
    rw [hs.mget k] at h1
    rw [Bool.eq_iff_iff, h1, decide_eq_true_eq, List.mem_append, hmem k]
    exact ⟨fun e => ⟨hk, e⟩, fun e => e.2⟩
  have l1 := left_marks ss.length (usedL cs t.P) hU hs.inn
  have l2 := left_marks ss.length (usedL cs t.P ++ L) (List.nodup_append.2 ⟨hU, hnd, fun a ha b hb e => by
    subst e
    have h1 := (hs.mget a).2 ha
    rw [(hfree a hb).2] at h1
    cases h1⟩) (fun x hx => by
    rcases List.mem_append.1 hx with hx | hx
    · exact hs.inn x hx
    · exact (hfree x hx).1)
  rw [← hs.map] at l1
  rw [← hM, List.length_append] at l2
  have l3 : L.length = cntV X := by
    rw [hL, fm_length]
    unfold cntV
    refine List.countP_congr fun j _ => ?_
    simp
  omega
end
/-- Whether anything is left. -/
theorem left_pos (M : List Bool) : M6.nextF M 0 false < M.length ↔ 0 < M6.leftF M := by
  obtain ⟨_, h2, h3, h4⟩ := M6.nextF_spec M 0 false (Nat.zero_le _)
  unfold M6.leftF
  rw [List.count_pos_iff]
  constructor
  · intro h
    have := h4 h
    rw [List.getD_eq_getElem?_getD, List.getElem?_eq_getElem h] at this
    simp at this
    exact this ▸ List.getElem_mem h
  · intro h
    obtain ⟨i, hi, e⟩ := List.getElem_of_mem h
    refine Nat.lt_of_not_le fun hle => ?_
    have := h3 i (Nat.zero_le _) (by omega)
    rw [List.getD_eq_getElem?_getD, List.getElem?_eq_getElem hi] at this
    simp [e] at this
theorem left_set {M : List Bool} {k : Nat} (hk : k < M.length) : M6.leftF M ≤ M6.leftF (M.set k true) + 1 := by
  unfold M6.leftF
  rw [List.count_set hk]
  by_cases h : M[k] = false
  · simp [h]; omega
  · simp at h; simp [h]
theorem plan_room (P : List Nat) : ∀ (l : List Nat) (s : PlanS), l.length ≤ M6.leftF s.M → planTo P s l ≠ none
  | [], s, _ => by rw [plan_nil]; simp
  | i :: l, s, h => by
    rw [List.length_cons] at h
    rw [plan_cons]
    unfold planStep
    by_cases hf : fillsB P i = true
    · have hlt := (left_pos s.M).2 (by omega)
      rw [if_pos hf, if_pos hlt]
      refine plan_room P l _ ?_
      have := left_set hlt
      show l.length ≤ M6.leftF (s.M.set _ true)
      omega
    · rw [if_neg hf]
      exact plan_room P l ⟨s.cs.set i 0, s.M, s.ws⟩ (by show l.length ≤ M6.leftF s.M; omega)
theorem dirty_len (D : List Bool) : (T9.dirtyF D).length ≤ 8 := by
  have h1 := dirty_nodup D
  have h2 := dirty_lt D
  have : (T9.dirtyF D).length ≤ (List.range 8).length := List.Nodup.length_le_of_subset h1 (fun x hx => List.mem_range.2 (h2 x hx))
  simpa using this
/-- A transaction whose commit has room. -/
theorem Over.room {g : Pg} {T : Tr} {V V' : Pgs} {N : Nat} (o : Over g T V V' N) (h : cntV V' + 8 ≤ M6.leftF g.m) : planTo T.t.P ⟨g.r.cs, T.m, []⟩ (T9.dirtyF T.t.D) ≠ none := by
  refine plan_room _ _ _ ?_
  have h1 := o.tx.left o.st.sto
  have h2 : cntV T.X ≤ cntV V' := cntV_mono fun j hj hx e => by
    rcases o.tx.page j hj with ⟨s, d, _, _, _, _, _, kd, b, e2, _⟩ | ⟨e1, _⟩ | ⟨e1, _⟩
    · rw [e] at e2; cases e2
    · exact hx e1
    · exact hx e1
  have h3 := dirty_len T.t.D
  show _ ≤ M6.leftF T.m
  omega
/-- Over a store without pages all pages are the transaction's own. -/
theorem Over.own {g : Pg} {T : Tr} {V' : Pgs} {N : Nat} (o : Over g T (fun _ => none) V' N) : cntV T.X = cntV V' := by
  refine Nat.le_antisymm (cntV_mono fun j hj hx e => ?_) (cntV_mono fun j hj hv e => ?_)
  · rcases o.tx.page j hj with ⟨s, d, _, _, _, _, _, kd, b, e2, _⟩ | ⟨e1, _⟩ | ⟨e1, _⟩
    · rw [e] at e2; cases e2
    · exact hx e1
    · exact hx e1
  · rcases o.tx.page j hj with ⟨s, d, e1, _⟩ | ⟨_, _, e1⟩ | ⟨_, _, _, e1⟩
    · rw [e] at e1; cases e1
    · exact hv e1
    · exact hv e1
end Go.Proofs.YtliiooldlooagaaGreatDoor.J10

/-
  Calls in the words of the store, with their answers as numbers: Left, Epoch, a Commit that has room, a Read of a page; over this seat's translation; conditions: those that each law states.
-/
namespace Go.Proofs.YtliiooldlooagaaGreatDoor.J10
open Go.RowKit Go.Maps
theorem dnew64 (w : World) : Calls Tryz.prog 23 #[.int .i64 64] w fun e w' => ∃ p, e = .returned (.pointer (some ⟨p, 0, none⟩)) ∧ D5.PD w' w.heap.size (D5.newF w w') p (D5.newS 64) ∧ w.grownBy w' none := D5.dnew_any 64 w (by omega) (by omega)
theorem left_is {w : World} {base : Nat} {k : Bk} {g : Pg} (h : PgV w base k g) (hn : g.m.length ≤ 1024) (z : Int) (hz : ((M6.leftF g.m : Nat) : Int) = z) : Calls Tryz.prog 16 #[.pointer (some ⟨k.p, 0, none⟩)] w fun e w' => e = .returned (.int .i64 z) ∧ w = w' := by
  subst hz; exact left_any h hn
/-- An over transaction is none of a pager's blocks. -/
theorem over_far {w : World} {base x : Nat} {k : Bk} {g : Pg} (h : PgV w base k g) (hx : OverB w x) : ¬ footG k x := by
  intro hi
  rcases hi with e | e | e | e
  · exact blk_ne hx h.blk (by decide) e
  · exact disk_apart h.disk hx (by decide) (by decide) (by decide) e
  · exact blk_ne hx h.tab.1 (by decide) e
  · exact blk_ne hx h.map (by decide) e
/-- A page that stands. -/
theorem shows_at {g : Pg} {V : Pgs} {N : Nat} (h : Shows g V N) {p : Int} {kd : Nat} {b : ByteArray} (hv : V p = some (kd, b)) : ∃ m, In64 p ∧ T9.getF g.t p = m ∧ m ≠ 0 ∧ m < g.d.secs.length ∧ secAt g.d.secs m = sealB kd b ∧ 1 ≤ kd ∧ kd ≤ 254 ∧ b.size ≤ 240 := by
  have hp : T9.IsPage p := by
    by_cases hp : T9.IsPage p
    · exact hp
    · rw [h.sto.outV p hp] at hv; cases hv
  obtain ⟨j, hj, rfl⟩ := isPage_cases hp
  rcases h.sto.page j hj with ⟨_, e⟩ | ⟨h0, kd', b', e, h1, h2, h3, h4⟩
  · rw [e] at hv; cases hv
  · rw [e] at hv
    cases hv
    exact ⟨_, page64 hp, T9.getF_nat _ _ hj, h0, (h.sto.mpage hj h0).2.1, h4, h1, h2, h3⟩
/-- A Read of a page that stands. -/
theorem read_at {w : World} {base n N : Nat} {k : Bk} {y : Bx} {g : Pg} {V : Pgs} {b0 : Bool} (h : TxV w base k y n { g with busy := b0 } ⟨g.t, g.m, fun _ => none⟩) (s : Shows g V N) (hN : N ≤ 900000) (p : Int) (kd : Nat) (b : ByteArray) (hv : V p = some (kd, b)) :
    Calls Tryz.prog 71 #[.pointer (some ⟨y.x, 0, none⟩), .int .i64 p] w fun e w' => e = .returned (.tuple #[.int .i64 (kd : Nat), .string b, .int .i64 0]) ∧ D5.Kp (footG k) w w' := by
  obtain ⟨m, h1, h2, h3, h4, h5, h6, h7, h8⟩ := shows_at s hv
  refine (txRead_any h s.dead s.idle s.ok hN h1 rfl h2 h3 h4 h5 h6 h7 h8).mono fun e w' hh => ?_
  obtain ⟨e1, k', _, _, _, _, _, _, hk⟩ := hh
  exact ⟨e1, hk.mono fun i hi => .inr (.inl hi)⟩
/-- What a Commit leaves, of a disk that is not armed, with room. -/
def ComK (w : World) (base : Nat) (k : Bk) (y : Bx) (g : Pg) (V V' : Pgs) (N : Nat) (w' : World) : Prop :=
  ∃ k' g', k'.p = k.p ∧ k'.dp = k.dp ∧ PgV w' base k' g' ∧ g'.busy = false ∧ OverB w' y.x ∧ (∀ i, footG k' i → footX k y i ∨ w.heap.size ≤ i) ∧ D5.Kp (footX k y) w w' ∧
    Stands g' V' (N + 1100) ∧ ((g'.r.e = g.r.e ∧ V' = V) ∨ g'.r.e = g.r.e + 1) ∧ g'.d.armed = false ∧ g'.d.secs.length = g.d.secs.length
theorem com_ok {w : World} {base n N : Nat} {k : Bk} {y : Bx} {g : Pg} {T : Tr} {V V' : Pgs} (h : TxV w base k y n g T) (o : Over g T V V' N) (hE : Env w) (b5 : 4 ≤ base) (hb : base ≤ w.heap.size) (hN : N ≤ 880000) (hre : g.r.e < 999999) (ha : g.d.armed = false) (hr : cntV V' + 8 ≤ M6.leftF g.m) :
    Calls Tryz.prog 13 #[.pointer (some ⟨y.x, 0, none⟩)] w fun e w' => e = .returned (.int .i64 0) ∧ ComK w base k y g V V' N w' :=
  (ov_commit h o hE b5 hb hN hre).mono fun e w' hh => by
    obtain ⟨c, k', g', e1, e2, e3, e4, e5, e6, e7, e8, e9⟩ := hh
    rcases e9 with ⟨rfl, h1, h2, _, h4, h5⟩ | ⟨_, _, _, h4, _⟩ | ⟨_, h2, _⟩
    · exact ⟨e1, k', g', e2, e3, e4, e5, e6, e7, e8, h1, h2, h4 ha, h5⟩
    · exact absurd h4 (o.room hr)
    · rw [ha] at h2; cases h2
theorem Stands.len {g : Pg} {V : Pgs} {N : Nat} (h : Stands g V N) : g.m.length ≤ 1024 := by rw [h.sto.mlen]; have := h.sto.n2; omega
theorem Stands.left {g : Pg} {V : Pgs} {N : Nat} (h : Stands g V N) (hl : Low V) : M6.leftF g.m + 2 + (if cntV V = 0 then 0 else 1) + cntV V = g.d.secs.length := h.sto.left fun p hp => hl p hp
theorem low_nil : Low fun _ => none := fun _ h => absurd rfl h
theorem cntV_nil : cntV (fun _ => none) = 0 := cntV_zero.2 fun _ _ => rfl
/-- A new page is the lowest one that stands nowhere. -/
theorem new_low {w : World} {base n N : Nat} {k : Bk} {y : Bx} {g : Pg} {T : Tr} {V V' : Pgs} (h : TxV w base k y n g T) (o : Over g T V V' N) (hT : M6.Tab w) (hn : n < 1000000) {kd : Nat} {b : ByteArray} (h1 : 1 ≤ kd) (h2 : kd ≤ 254) (h3 : b.size ≤ 240) (hk : M6.nextF T.m 0 false < T.m.length)
    (z : Int) (hz : ((kd : Nat) : Int) = z) (pz : Int) (hp : 1 ≤ pz) (hp9 : pz ≤ 960) (hlow : ∀ q : Int, 1 ≤ q → q < pz → V' q ≠ none) (hno : V' pz = none) :
    Calls Tryz.prog 27 #[.pointer (some ⟨y.x, 0, none⟩), .int .i64 z, .string b] w fun e w' => e = .returned (.tuple #[.int .i64 pz, .int .i64 0]) ∧ ChgL w base k y n g V N (upd V' pz (kd, b)) (M6.leftF T.m - 1) w' := by
  subst hz
  refine (new_is h o hT hn h1 h2 h3 hk ⟨(pz - 1).toNat, by omega, by rw [show (((pz - 1).toNat : Nat) : Int) + 1 = pz by omega]; exact hno⟩).mono fun e w' hh => ?_
  obtain ⟨p, e1, e2, e3, _, e5, e6⟩ := hh
  obtain rfl : p = pz := by
    by_cases q1 : p < pz
    · exact absurd e2 (hlow p e3 q1)
    · by_cases q2 : pz < p
      · exact absurd hno (e6 pz hp q2)
      · omega
  exact ⟨e1, e5⟩
/-- One page. -/
theorem cntV_one (x : Nat × ByteArray) : cntV (upd (fun _ => none) 1 x) = 1 := cntV_first (by omega) fun j _ => by
  unfold upd
  by_cases e : j = 0
  · subst e; simp
  · rw [if_neg (by omega)]; simp; omega
end Go.Proofs.YtliiooldlooagaaGreatDoor.J10

/-
  The law's small functions: a body (body), over this seat's translation; no conditions.
-/
namespace Go.Proofs.YtliiooldlooagaaGreatDoor.J10
open Go.RowKit Go.Maps
theorem Tryz.infoByte : (Tryz.prog.info? 5).map (fun i => (i.zero, i.size, i.bytes)) = some (some (.int .u8 0), 1, 1) := by kernel_rfl
theorem made_one (v : Value) (n : Nat) (h : v.cells = #[v]) : madeCells v.cells n = (List.replicate n v).toArray := by
  rw [h]; apply Array.toList_inj.1; rw [toList_madeCells_one]
def byC (l : List UInt8) : List Value := l.map fun b => Value.int .u8 (b.toNat : Nat)
theorem byC_at {l : List UInt8} {j : Nat} (h : j < l.length) : (byC l)[j]? = some (.int .u8 ((l.getD j 0).toNat : Nat)) := by simp [byC, List.getD_eq_getElem?_getD, h]
theorem byC_set (l : List UInt8) (k : Nat) (c : UInt8) : (byC l).toArray.setIfInBounds k (.int .u8 (c.toNat : Nat)) = (byC (l.set k c)).toArray := by
  rw [List.setIfInBounds_toArray]
  unfold byC
  rw [List.map_set]
theorem make_by (n : Nat) (w : World) (hn : n ≤ 100000) : (Instr.makeSlice 59 (.int .i64 (n : Nat)) (.int .i64 (n : Nat))).run Tryz.prog w = .ok (.slice (some ⟨w.heap.size, 0, none⟩) n n) (w.alloc (.cells (byC (List.replicate n 0)).toArray 5)) := by
  obtain ⟨i0, hi, hz0, hz1, hz2⟩ := info_parts Tryz.infoByte
  have h := run_make (P := Tryz.prog) w 59 5 i0 (.int .u8 0) Tryz.underlying59 hi hz0 .i64 .i64 (n : Int) (n : Int) (by omega) (by omega) (by rw [hz2]; omega) (by omega)
  have e : byC (List.replicate n 0) = List.replicate n (Value.int .u8 0) := by simp [byC]
  rw [hz1, Nat.mul_one, Int.toNat_natCast, made_one _ _ rfl, ← e] at h
  exact h
theorem by_str {W : World} {b : Nat} {l : List UInt8} (h : Blk W b 5 (byC l).toArray) (n : Nat) (hn : n = l.length) :
    (convert 59 9 (.slice (some ⟨b, 0, none⟩) n n)).run Tryz.prog W = .ok (.string ⟨l.toArray⟩) W := by
  subst hn
  exact run_convert_bytes_back W 59 9 5 ⟨b, 0, none⟩ l.length l Tryz.underlying59 Tryz.underlying5 Tryz.underlying9 (fun j hj => by
    rw [Addr.add_mid, Nat.zero_add, h.cell j (by rw [List.getElem?_toArray]; exact byC_at hj)]
    simp [List.getD_eq_getElem?_getD, hj])
/-- An act. -/
def actV (a b c d : UInt8) : Array Value := #[.int .u8 (a.toNat : Nat), .int .u8 (b.toNat : Nat), .int .u8 (c.toNat : Nat), .int .u8 (d.toNat : Nat)]
end Go.Proofs.YtliiooldlooagaaGreatDoor.J10
