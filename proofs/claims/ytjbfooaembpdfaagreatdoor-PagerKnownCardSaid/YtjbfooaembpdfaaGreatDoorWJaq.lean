/-
  How many entries a state has, and what a look at the pages leaves; over this seat's translation; conditions: those that each law states.
-/
import Derived.Test.YtjbfooaembpdfaaGreatDoorZJ6
set_option linter.unusedSimpArgs false
set_option linter.unusedVariables false
namespace Go.Proofs.YtjbfooaembpdfaaGreatDoor.J10
open Go.RowKit Go.Maps Go.ChangeMaps
/-- A map of numbers as read. -/
def Kd (D : DataW Unit) : Prop := ∃ es, D = .map es ∧ es.Pairwise (fun p q => p.1 ≠ q.1) ∧ ∀ p ∈ es, ∃ x : Int, In64 x ∧ p.1 = .int .i64 x
theorem kd_own {w : World} {b n : Nat} {D : DataW Unit} (h : w.ownsMap Tryz.prog 3 elR b n D) : Kd D := by
  obtain ⟨es, e1, e2, e3⟩ := h.canon lawI
  refine ⟨es, e1, apart_of_rising e2, fun p hp => ?_⟩
  obtain ⟨x, hx, e⟩ := only_ints h (kl := p.1) (by rw [e1, Maps.has_eq]; exact List.any_eq_true.2 ⟨p, hp, Go.WideAt.sameKey_self (e3 p hp)⟩)
  exact ⟨x, hx, e⟩
theorem Kd.del {D : DataW Unit} (h : Kd D) (k : Lit) : Kd (D.del k) := by
  obtain ⟨es, rfl, h1, h2⟩ := h
  exact ⟨_, rfl, h1.filter _, fun p hp => h2 p (List.mem_filter.1 hp).1⟩
theorem kd_size : ∀ (k : Nat) (D : DataW Unit) (V : Pgs), k ≤ 960 → Kd D → Vw D V → (∀ p, V p ≠ none → 1 ≤ p ∧ p ≤ (k : Int)) → Maps.size D = (List.range k).countP fun j : Nat => (V ((j : Int) + 1)).isSome
  | 0, D, V, _, h, hv, hs => by
    obtain ⟨es, rfl, _, h2⟩ := h
    cases es with
    | nil => rfl
    | cons p es =>
      obtain ⟨x, hx, e⟩ := h2 p (List.mem_cons_self ..)
      rcases hv x hx with ⟨_, q⟩ | ⟨z, q, _⟩
      · rw [Maps.has_eq, List.any_cons, e, Go.WideAt.sameKey_self (show Go.WideAt.IsKeyLit (.int .i64 x) from trivial)] at q
        cases q
      · have := hs x (by rw [q]; exact fun h => by cases h)
        omega
  | k + 1, D, V, hk9, h, hv, hs => by
    have ht : Maps.Tidy D := by obtain ⟨es, e, h1, _⟩ := h; exact ⟨es, e, h1⟩
    have ih := kd_size k (D.del (.int .i64 ((k : Int) + 1))) (del V ((k : Int) + 1)) (by omega) (h.del _) (hv.del _) (fun p hp => by
      unfold J10.del at hp
      by_cases e : p = (k : Int) + 1
      · rw [if_pos e] at hp; exact absurd rfl hp
      · rw [if_neg e] at hp
        have := hs p hp
        omega)
    have hz := Maps.size_del (k := .int .i64 ((k : Int) + 1)) ht
    have hc : ((List.range k).countP fun j : Nat => (del V ((k : Int) + 1) ((j : Int) + 1)).isSome) = (List.range k).countP fun j : Nat => (V ((j : Int) + 1)).isSome := List.countP_congr fun j hj => by
      have := List.mem_range.1 hj
      unfold J10.del
      rw [if_neg (by omega)]
    rw [List.range_succ, List.countP_append, ← hc, ← ih, ← hz]
    rcases hv _ (show In64 ((k : Int) + 1) by constructor <;> omega) with ⟨q1, q2⟩ | ⟨z, q1, q2, _⟩
    · rw [q2]; simp [q1]
    · rw [q2]; simp [q1]
/-- How many entries a state has. -/
theorem Mp.len {w : World} {b n : Nat} {V : Pgs} {t e : TypeId} (h : Mp w b n V) (T : PairT t e) (ho : ∀ p, ¬ T9.IsPage p → V p = none) (z : Int) (hz : ((cntV V : Nat) : Int) = z) (ty : TypeId) : (Builtin.len_ #[t] ty #[.map (some b)]).run Tryz.prog w = .ok (.int .i64 z) w := by
  obtain ⟨D, h, hv⟩ := h
  have e := kd_size 960 D V (Nat.le_refl _) (kd_own h) hv (fun p hp => by
    by_cases hq : T9.IsPage p
    · obtain ⟨j, hj, rfl⟩ := isPage_cases hq
      omega
    · exact absurd (ho p hq) hp)
  subst hz
  have h2 := h.len T.map ty
  rw [e] at h2
  exact h2
theorem pagesN_len {ss : List ByteArray} {cs : List Int} {t : T9.TB} {m : List Bool} {V : Pgs} (hs : Sto ss cs t m V) : (pagesN t.P).length = cntV V := by
  rw [← hs.pages]
  unfold pagesN pagesTo T9.secsF
  rw [List.length_map, filter_idx, hs.fit.1, ← List.countP_eq_length_filter]
/-- A look at the pages leaves the pager as it was, but for the disk's count. -/
theorem Stands.looked {g : Pg} {V : Pgs} {N : Nat} (h : Stands g V N) (q : Nat) (hok : (idD g.d q).Ok (N + q)) (b : Bool) : Stands { g with d := idD g.d q, busy := b } V (N + q) := ⟨h.sto, h.roots, rfl, rfl, hok, h.dead, h.re⟩
theorem dead_is {w : World} {base : Nat} {k : Bk} {g : Pg} (h : PgV w base k g) (hd : g.dead = false) : Calls Tryz.prog 20 #[.pointer (some ⟨k.p, 0, none⟩)] w fun e w' => e = .returned (.bool false) ∧ w = w' := by
  have := dead_any h
  rw [hd] at this
  exact this
end Go.Proofs.YtjbfooaembpdfaaGreatDoor.J10
