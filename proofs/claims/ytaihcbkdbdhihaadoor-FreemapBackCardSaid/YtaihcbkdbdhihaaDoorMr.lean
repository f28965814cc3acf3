/-
  A map's runs of free things, as plain mathematics; no conditions beside those that each law states.
-/
import Derived.Test.YtaihcbkdbdhihaaDoorMo
namespace Go.Proofs.YtaihcbkdbdhihaaDoor

/-- The last run is one longer. -/
def bump : List (Nat × Nat) → List (Nat × Nat)
  | [] => []
  | [p] => [(p.1, p.2 + 1)]
  | p :: q :: l => p :: bump (q :: l)
theorem bump_snoc : ∀ (l : List (Nat × Nat)) (a b : Nat), bump (l ++ [(a, b)]) = l ++ [(a, b + 1)]
  | [], _, _ => rfl
  | [_], _, _ => rfl
  | p :: q :: l, a, b => by
    show p :: bump ((q :: l) ++ [(a, b)]) = _
    rw [bump_snoc (q :: l) a b]; rfl
theorem bump_length : ∀ l : List (Nat × Nat), (bump l).length = l.length
  | [] => rfl
  | [_] => rfl
  | p :: q :: l => by show (bump (q :: l)).length + 1 = _; rw [bump_length (q :: l)]; rfl
/-- The runs among the first things. -/
def runsTo (us : List Bool) : Nat → List (Nat × Nat)
  | 0 => []
  | k + 1 => if us.getD k false then runsTo us k else if 0 < k ∧ us.getD (k - 1) false = false then bump (runsTo us k) else runsTo us k ++ [(k, 1)]
def runsF (us : List Bool) : List (Nat × Nat) := runsTo us us.length
theorem runsTo_used {us : List Bool} {k : Nat} (h : us.getD k false = true) : runsTo us (k + 1) = runsTo us k := by
  show (if _ then _ else _) = _
  rw [if_pos h]
theorem runsTo_new {us : List Bool} {k : Nat} (h : us.getD k false = false) (hp : k = 0 ∨ us.getD (k - 1) false = true) : runsTo us (k + 1) = runsTo us k ++ [(k, 1)] := by
  show (if _ then _ else if _ then _ else _) = _
  rw [if_neg (by rw [h]; simp), if_neg]
  rintro ⟨h1, h2⟩
  rcases hp with rfl | h3
  · omega
  · rw [h2] at h3; cases h3
theorem runsTo_more {us : List Bool} {k : Nat} (h : us.getD k false = false) (h0 : 0 < k) (hp : us.getD (k - 1) false = false) : runsTo us (k + 1) = bump (runsTo us k) := by
  show (if _ then _ else if _ then _ else _) = _
  rw [if_neg (by rw [h]; simp), if_pos ⟨h0, hp⟩]
theorem runsTo_last {us : List Bool} : ∀ {k : Nat}, 0 < k → us.getD (k - 1) false = false → ∃ l a b, runsTo us k = l ++ [(a, b)] ∧ a + b = k ∧ 1 ≤ b
  | 0, h, _ => by omega
  | 1, _, hp => ⟨[], 0, 1, runsTo_new hp (.inl rfl), rfl, by omega⟩
  | k + 2, _, hp => by
    have hp' : us.getD (k + 1) false = false := hp
    by_cases h2 : us.getD k false = false
    · obtain ⟨l, a, b, h3, h4, h5⟩ := runsTo_last (k := k + 1) (by omega) h2
      exact ⟨l, a, b + 1, by rw [runsTo_more hp' (by omega) h2, h3, bump_snoc], by omega, by omega⟩
    · exact ⟨runsTo us (k + 1), k + 1, 1, runsTo_new hp' (.inr (by simpa using h2)), rfl, by omega⟩
theorem runsTo_run {us : List Bool} {f : Nat} (hp : f = 0 ∨ us.getD (f - 1) false = true) : ∀ d, (∀ i, f ≤ i → i ≤ f + d → us.getD i false = false) → runsTo us (f + d + 1) = runsTo us f ++ [(f, d + 1)]
  | 0, h => runsTo_new (h f (by omega) (by omega)) hp
  | d + 1, h => by
    have ih := runsTo_run hp d (fun i h1 h2 => h i h1 (by omega))
    show runsTo us (f + d + 1 + 1) = _
    rw [runsTo_more (h _ (by omega) (by omega)) (by omega) (h _ (by omega) (by omega)), ih, bump_snoc]
theorem runsTo_skip {us : List Bool} {a : Nat} : ∀ d, (∀ i, a ≤ i → i < a + d → us.getD i false = true) → runsTo us (a + d) = runsTo us a
  | 0, _ => rfl
  | d + 1, h => by
    show runsTo us (a + d + 1) = _
    rw [runsTo_used (h _ (by omega) (by omega)), runsTo_skip d (fun i h1 h2 => h i h1 (by omega))]
/-- What is told of each run. -/
theorem runsTo_bd {us : List Bool} {k : Nat} : ∀ {p : Nat × Nat}, p ∈ runsTo us k → 1 ≤ p.2 ∧ p.1 + p.2 ≤ k ∧ ∀ i, p.1 ≤ i → i < p.1 + p.2 → us.getD i false = false := by
  induction k with
  | zero => intro p h; cases h
  | succ k ih =>
    intro p h
    by_cases hu : us.getD k false = true
    · rw [runsTo_used hu] at h
      have := ih h
      exact ⟨this.1, by omega, this.2.2⟩
    · have hf : us.getD k false = false := by simpa using hu
      by_cases hp : 0 < k ∧ us.getD (k - 1) false = false
      · obtain ⟨l, a, b, h3, h4, h5⟩ := runsTo_last hp.1 hp.2
        rw [runsTo_more hf hp.1 hp.2, h3, bump_snoc] at h
        rcases List.mem_append.1 h with h6 | h6
        · have := ih (p := p) (by rw [h3]; exact List.mem_append_left _ h6)
          exact ⟨this.1, by omega, this.2.2⟩
        · rw [List.mem_singleton] at h6
          subst h6
          have := ih (p := (a, b)) (by rw [h3]; simp)
          refine ⟨by show 1 ≤ b + 1; omega, by show a + (b + 1) ≤ k + 1; omega, fun i h1 h2 => ?_⟩
          have h1' : a ≤ i := h1
          have h2' : i < a + (b + 1) := h2
          rcases Nat.lt_or_ge i k with h7 | h7
          · exact this.2.2 i h1' (by show i < a + b; omega)
          · rw [show i = k from by omega]; exact hf
      · have hp' : k = 0 ∨ us.getD (k - 1) false = true := by
          rcases Nat.eq_zero_or_pos k with h8 | h8
          · exact .inl h8
          · right
            cases h9 : us.getD (k - 1) false
            · exact absurd ⟨h8, h9⟩ hp
            · rfl
        rw [runsTo_new hf hp'] at h
        rcases List.mem_append.1 h with h6 | h6
        · have := ih h6
          exact ⟨this.1, by omega, this.2.2⟩
        · rw [List.mem_singleton] at h6
          subst h6
          refine ⟨Nat.le_refl _, by show k + 1 ≤ k + 1; omega, fun i h1 h2 => ?_⟩
          have h1' : k ≤ i := h1
          have h2' : i < k + 1 := h2
          rw [show i = k from by omega]; exact hf
theorem runsF_bd {us : List Bool} {p : Nat × Nat} (h : p ∈ runsF us) : 1 ≤ p.2 ∧ p.1 + p.2 ≤ us.length ∧ ∀ i, p.1 ≤ i → i < p.1 + p.2 → us.getD i false = false := runsTo_bd h
/-- Runs rise, and none touches the one behind it. -/
def Apart : List (Nat × Nat) → Prop
  | [] => True
  | [_] => True
  | p :: q :: l => p.1 + p.2 < q.1 ∧ Apart (q :: l)
theorem apart_snoc : ∀ {l : List (Nat × Nat)} {q : Nat × Nat}, Apart l → (∀ p ∈ l.getLast?, p.1 + p.2 < q.1) → Apart (l ++ [q])
  | [], _, _, _ => trivial
  | [p], q, _, h => ⟨h p (by simp), trivial⟩
  | p :: r :: l, q, h1, h2 => ⟨h1.1, apart_snoc (l := r :: l) h1.2 (fun x hx => h2 x (by simpa using hx))⟩
theorem apart_change : ∀ {l : List (Nat × Nat)} {a b c : Nat}, Apart (l ++ [(a, b)]) → Apart (l ++ [(a, c)])
  | [], _, _, _, _ => trivial
  | [_], _, _, _, h => ⟨h.1, trivial⟩
  | _ :: r :: l, _, _, _, h => ⟨h.1, apart_change (l := r :: l) h.2⟩
theorem runsTo_apart {us : List Bool} : ∀ k, Apart (runsTo us k)
  | 0 => trivial
  | k + 1 => by
    have ih := runsTo_apart (us := us) k
    by_cases hu : us.getD k false = true
    · rw [runsTo_used hu]; exact ih
    · have hf : us.getD k false = false := by simpa using hu
      by_cases hp : 0 < k ∧ us.getD (k - 1) false = false
      · obtain ⟨l, a, b, h3, _, _⟩ := runsTo_last hp.1 hp.2
        rw [runsTo_more hf hp.1 hp.2, h3, bump_snoc]
        rw [h3] at ih
        exact apart_change ih
      · have hp' : k = 0 ∨ us.getD (k - 1) false = true := by
          rcases Nat.eq_zero_or_pos k with h8 | h8
          · exact .inl h8
          · right
            cases h9 : us.getD (k - 1) false
            · exact absurd ⟨h8, h9⟩ hp
            · rfl
        rw [runsTo_new hf hp']
        refine apart_snoc ih fun p hpm => ?_
        show p.1 + p.2 < k
        have hm := List.mem_of_getLast? hpm
        have hb := runsTo_bd hm
        rcases hp' with h8 | h8
        · omega
        · rcases Nat.lt_or_ge (p.1 + p.2) k with h9 | h9
          · exact h9
          · have := hb.2.2 (k - 1) (by omega) (by omega)
            rw [this] at h8; cases h8
/-- How many things runs have. -/
def manyIn (l : List (Nat × Nat)) : Nat := (l.map Prod.snd).sum
theorem manyIn_snoc (l : List (Nat × Nat)) (a b : Nat) : manyIn (l ++ [(a, b)]) = manyIn l + b := by simp [manyIn]
theorem runsTo_many {us : List Bool} : ∀ k, k ≤ us.length → manyIn (runsTo us k) = (us.take k).count false
  | 0, _ => by simp [runsTo, manyIn]
  | k + 1, hk => by
    have ih := runsTo_many (us := us) k (by omega)
    rw [List.take_succ_eq_append_getElem (by omega), List.count_append, ← ih]
    have e : us.getD k false = us[k] := by simp [List.getD_eq_getElem?_getD, show k < us.length from by omega]
    by_cases hu : us.getD k false = true
    · rw [runsTo_used hu, ← e, hu]; rfl
    · have hf : us.getD k false = false := by simpa using hu
      rw [← e, hf]
      by_cases hp : 0 < k ∧ us.getD (k - 1) false = false
      · obtain ⟨l, a, b, h3, _, _⟩ := runsTo_last hp.1 hp.2
        rw [runsTo_more hf hp.1 hp.2, h3, bump_snoc, manyIn_snoc, manyIn_snoc]; rfl
      · have hp' : k = 0 ∨ us.getD (k - 1) false = true := by
          rcases Nat.eq_zero_or_pos k with h8 | h8
          · exact .inl h8
          · right
            cases h9 : us.getD (k - 1) false
            · exact absurd ⟨h8, h9⟩ hp
            · rfl
        rw [runsTo_new hf hp', manyIn_snoc]; rfl
theorem runsF_many (us : List Bool) : manyIn (runsF us) = leftF us := by
  unfold runsF; rw [runsTo_many _ (Nat.le_refl _), List.take_length]; rfl
theorem runsTo_len {us : List Bool} : ∀ k, (runsTo us k).length ≤ k
  | 0 => Nat.le_refl _
  | k + 1 => by
    have ih := runsTo_len (us := us) k
    show (if _ then _ else if _ then _ else _ : List _).length ≤ _
    split
    · omega
    · split
      · rw [bump_length]; omega
      · simp; omega
theorem runsF_len (us : List Bool) : (runsF us).length ≤ us.length := runsTo_len _
theorem runsF_full {us : List Bool} (h : ∀ i, i < us.length → us.getD i false = true) : runsF us = [] := by
  unfold runsF
  have := runsTo_skip (us := us) (a := 0) us.length (fun i _ h2 => h i (by omega))
  rw [Nat.zero_add] at this
  exact this
end Go.Proofs.YtaihcbkdbdhihaaDoor
