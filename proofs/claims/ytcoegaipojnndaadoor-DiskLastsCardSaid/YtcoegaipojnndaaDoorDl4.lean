/-
  DiskLasts' walk: for all writes, every place where the power goes, and all choices the statement's function returns true; condition: the table of masks reads as the program lays it.
-/
import Derived.Test.YtcoegaipojnndaaDoorDl3
namespace Go.Proofs.YtcoegaipojnndaaDoor
open Go.RowKit Go.Maps

theorem PD.mono5 {w : World} {base p : Nat} {F : Nat → Prop} {w1 w2 : World} {s : St} (h : PD w base F p s) : PD w base (Nw F w1 w2) p s := by
  obtain ⟨vs, vp, bm, D, hv, hf⟩ := h; exact ⟨vs, vp, bm, D, hv, fun k hk => .inl (hf k hk)⟩
/-! Writes that came in. -/
abbrev Pu := UInt8 × UInt8 × Bool
def puC1 (x : Pu) : List Value := [.int .u8 (x.1.toNat : Nat), .int .u8 (x.2.1.toNat : Nat), .bool x.2.2]
def puC (l : List Pu) : List Value := l.flatMap puC1
def Pus (w : World) (v : Value) (l : List Pu) : Prop := Sl 3 w v l.length (puC l)
theorem puC_length (l : List Pu) : (puC l).length = l.length * 3 := by
  induction l with
  | nil => rfl
  | cons x l ih => show (puC l).length + 3 = _; rw [ih, List.length_cons]; omega
theorem puC_at (l : List Pu) (i : Nat) (x : Pu) (h : l[i]? = some x) (j : Nat) (hj : j < 3) : (puC l)[i * 3 + j]? = (puC1 x)[j]? := by
  induction l generalizing i with
  | nil => simp at h
  | cons y l ih =>
    cases i with
    | zero =>
      obtain rfl : y = x := by simpa using h
      show ((puC1 y) ++ puC l)[0 * 3 + j]? = _
      rw [List.getElem?_append_left (by simp [puC1]; omega)]
      simp
    | succ i =>
      have := ih i (by simpa using h)
      show ((puC1 y) ++ puC l)[(i + 1) * 3 + j]? = _
      rw [List.getElem?_append_right (by simp [puC1]; omega), show (i + 1) * 3 + j - (puC1 y).length = i * 3 + j by simp [puC1]; omega]
      exact this

/-! The array of lists in memory. -/
def arr8 (vs : Nat → Value) : Array Value := ((List.range 8).map vs).toArray
def ORow0 (w : World) (base : Nat) (v : Value) (xs : List ByteArray) : Prop := (xs = [] ∧ v = .slice none 0 0) ∨ ORow w base v xs
theorem ORow0.lt {w : World} {base : Nat} {v : Value} {xs : List ByteArray} (h : ORow0 w base v xs) : ∀ k, v.ownBlock = some k → base ≤ k ∧ k < w.heap.size := by
  rcases h with ⟨_, rfl⟩ | h
  · intro k hk; cases hk
  · exact h.lt
theorem ORow0.kp {F : Nat → Prop} {w w' : World} {base : Nat} {v : Value} {xs : List ByteArray} (h : ORow0 w base v xs) (g : Kp F w w') (hr : ∀ k, v.ownBlock = some k → ¬ F k) : ORow0 w' base v xs := by
  rcases h with h | h
  · exact .inl h
  · exact .inr (h.kp g hr)
theorem orow_blk {w : World} {base b : Nat} {t : TypeId} {cs : Array Value} {v : Value} {xs : List ByteArray} (h : ORow0 w base v xs) (hb : Blk w b t cs) (ht : t ≠ 9) : v.ownBlock ≠ some b := by
  rcases h with ⟨_, rfl⟩ | ⟨g, off, cap, cur, rfl, h1, h2, _⟩
  · intro e; cases e
  · intro e
    cases e
    unfold Blk at hb
    rw [hb] at h2
    cases h2
    exact ht rfl
/-- The disk, and the array of lists beside it. -/
def LasV (w : World) (base p mb : Nat) (s : St) (L : Nat → List ByteArray) (F : Nat → Prop) (vs : Nat → Value) : Prop :=
  PD w base F p s ∧ (∀ k, F k → base ≤ k ∧ k < w.heap.size ∧ k ≠ mb ∧ ∀ i, i < 8 → (vs i).ownBlock ≠ some k) ∧ Blk w mb 60 (arr8 vs) ∧ base ≤ mb ∧
    (∀ i, i < 8 → ORow0 w base (vs i) (L i)) ∧ (∀ i j, i < 8 → j < 8 → i ≠ j → ∀ b, (vs i).ownBlock = some b → (vs j).ownBlock ≠ some b) ∧ base ≤ w.heap.size
def Las (w : World) (base p mb : Nat) (s : St) (L : Nat → List ByteArray) : Prop := ∃ F vs, LasV w base p mb s L F vs
theorem LasV.disk {w w' : World} {base p mb : Nat} {s s' : St} {L : Nat → List ByteArray} {F : Nat → Prop} {vs : Nat → Value} (h : LasV w base p mb s L F vs) (h1 : PD w' base (Nw F w w') p s') (h2 : Kp F w w') : Las w' base p mb s' L ∧ Below base w w' := by
  obtain ⟨_, a2, a3, a4, a5, a6, a7⟩ := h
  have hs := h2.size
  refine ⟨⟨Nw F w w', vs, h1, ?_, h2.blk a3 (fun e => (a2 mb e).2.2.1 rfl), a4, fun i hi => (a5 i hi).kp h2 (fun k hk e => (a2 k e).2.2.2 i hi hk), a6, by omega⟩, h2.below (fun k e => (a2 k e).1) a7⟩
  intro k hk
  rcases hk with h | h
  · have := a2 k h
    exact ⟨this.1, by omega, this.2.2⟩
  · refine ⟨by omega, h.2, ?_, fun i hi e => ?_⟩
    · have := a3.lt; omega
    · have := ((a5 i hi).lt k e).2; omega
theorem LasV.keep0 {w w' : World} {base p mb : Nat} {s : St} {L : Nat → List ByteArray} {F : Nat → Prop} {vs : Nat → Value} (h : LasV w base p mb s L F vs) (g : w.grownBy w' none) : LasV w' base p mb s L F vs := by
  obtain ⟨a1, a2, a3, a4, a5, a6, a7⟩ := h
  have hs := g.size
  exact ⟨a1.keep0 g, fun k hk => ⟨(a2 k hk).1, by have := (a2 k hk).2.1; omega, (a2 k hk).2.2⟩, a3.keep0 g, a4, fun i hi => (a5 i hi).kp (F := fun _ => False) (Kp.of0 g) (fun _ _ => id), a6, by omega⟩
theorem Las.keep0 {w w' : World} {base p mb : Nat} {s : St} {L : Nat → List ByteArray} (h : Las w base p mb s L) (g : w.grownBy w' none) : Las w' base p mb s L := by
  obtain ⟨F, vs, h⟩ := h; exact ⟨F, vs, h.keep0 g⟩
theorem Las.base {w : World} {base p mb : Nat} {s : St} {L : Nat → List ByteArray} (h : Las w base p mb s L) : base ≤ w.heap.size := by
  obtain ⟨F, vs, h⟩ := h; exact h.2.2.2.2.2.2
theorem arr8_at (vs : Nat → Value) (k : Nat) (hk : k < 8) : (arr8 vs)[k]? = some (vs k) := by simp [arr8, hk]
theorem arr8_set (vs : Nat → Value) (k : Nat) (hk : k < 8) (v : Value) : (arr8 vs).setIfInBounds k v = arr8 (fun i => if i = k then v else vs i) := by
  unfold arr8
  apply Array.ext'
  simp only [List.setIfInBounds_toArray]
  apply List.ext_getElem?
  intro i
  rw [List.getElem?_set]
  by_cases hik : k = i
  · subst hik
    simp [hk]
  · by_cases h8 : i < 8
    · simp [hik, h8, Ne.symm hik]
    · simp [hik, h8]
/-- A list is laid anew. -/
theorem LasV.put {w w1 : World} {base p mb : Nat} {s : St} {L : Nat → List ByteArray} {F : Nat → Prop} {vs : Nat → Value} (h : LasV w base p mb s L F vs) {k : Nat} (hk : k < 8) (g : w.grownBy w1 (vs k).ownBlock) {v' : Value} {xs' : List ByteArray} (hv : ORow w1 base v' xs') (hn : ∀ b, v'.ownBlock = some b → (vs k).ownBlock = some b ∨ w.heap.size ≤ b) :
    Las (w1.setCell ⟨mb, k, none⟩ v') base p mb s (fun i => if i = k then xs' else L i) ∧ Below base w (w1.setCell ⟨mb, k, none⟩ v') ∧ w1.cell? ⟨mb, k, none⟩ = some (vs k) ∧ w1.frozen? ⟨mb, k, none⟩ = false := by
  obtain ⟨a1, a2, a3, a4, a5, a6, a7⟩ := h
  have hmk : (vs k).ownBlock ≠ some mb := orow_blk (a5 k hk) a3 (by decide)
  have b3 := a3.keep g hmk.symm
  have gs := gb_set w1 mb k none v'
  have hkp : Kp (fun b => b = mb ∨ (vs k).ownBlock = some b) w (w1.setCell ⟨mb, k, none⟩ v') := (Kp.of g (fun j e => .inr e)).step gs (fun j e => by cases e; exact .inl (.inl rfl))
  have hs := hkp.size
  have hs1 := g.size
  refine ⟨⟨F, fun i => if i = k then v' else vs i, a1.frame hkp (fun b hb e => ?_), fun b hb => ?_, ?_, a4, fun i hi => ?_, ?_, by omega⟩, ?_, b3.cell k (arr8_at vs k hk), b3.free k⟩
  · rcases e with e | e
    · exact (a2 b hb).2.2.1 e
    · exact (a2 b hb).2.2.2 k hk e
  · have h2 := a2 b hb
    refine ⟨h2.1, by omega, h2.2.2.1, fun i hi => ?_⟩
    by_cases hik : i = k
    · simp only [hik, if_true]
      intro e
      rcases hn b e with h3 | h3
      · exact h2.2.2.2 k hk h3
      · omega
    · simp only [hik, if_false]; exact h2.2.2.2 i hi
  · rw [← arr8_set vs k hk v']; exact b3.set k v'
  · by_cases hik : i = k
    · simp only [hik, if_true]
      exact .inr (hv.kept gs (by
        intro e
        rcases hn mb e with h3 | h3
        · exact hmk h3
        · have := a3.lt; omega))
    · simp only [hik, if_false]
      refine (a5 i hi).kp hkp (fun b hb e => ?_)
      rcases e with e | e
      · exact orow_blk (a5 i hi) a3 (by decide) (by rw [hb, e])
      · exact a6 i k hi hk hik b hb e
  · intro i j hi hj hij b hb
    by_cases hik : i = k
    · have hjk : ¬ j = k := by omega
      simp only [hik, if_true] at hb
      simp only [hjk, if_false]
      rcases hn b hb with h3 | h3
      · exact a6 k j hk hj (by omega) b h3
      · intro e; have := ((a5 j hj).lt b e).2; omega
    · simp only [hik, if_false] at hb
      by_cases hjk : j = k
      · simp only [hjk, if_true]
        intro e
        rcases hn b e with h3 | h3
        · exact a6 i k hi hk hik b hb h3
        · have := ((a5 i hi).lt b hb).2; omega
      · simp only [hjk, if_false]; exact a6 i j hi hj hij b hb
  · refine hkp.below (fun b e => ?_) a7
    rcases e with e | e
    · omega
    · exact ((a5 k hk).lt b e).1

theorem l_write {w : World} {base p mb : Nat} {s : St} {L : Nat → List ByteArray} (h : Las w base p mb s L) (i : Int) (d : ByteArray) {N : Nat} (hok : s.Ok N) (hN : N ≤ 5000) (hi : -9223372036854775808 ≤ i ∧ i ≤ 9223372036854775807) (E : Int) (s' : St) (hE : opE s (mayW s i d) = E) (hs : writeT s i d = s') :
    Calls Tryd.prog 18 #[.pointer (some ⟨p, 0, none⟩), .int .i64 i, .string d] w fun e w' => e = .returned (.int .i64 E) ∧ Las w' base p mb s' L ∧ Below base w w' := by
  subst hE; subst hs
  obtain ⟨F, vs, h⟩ := h
  exact (dwrite_any w base F p s i d N h.1 hok hN h.2.2.2.2.2.2 hi).mono fun e w' h' => ⟨h'.1, h.disk h'.2.1 h'.2.2⟩
theorem l_read {w : World} {base p mb : Nat} {s : St} {L : Nat → List ByteArray} (h : Las w base p mb s L) (i : Int) {N : Nat} (hok : s.Ok N) (hN : N ≤ 5000) (hi : -9223372036854775808 ≤ i ∧ i ≤ 9223372036854775807) (E : Int) (S : ByteArray) (s' : St) (hE : opE s (hasF s i) = E) (hS : readS s i = S) (hs : opS s (hasF s i) = s') :
    Calls Tryd.prog 16 #[.pointer (some ⟨p, 0, none⟩), .int .i64 i] w fun e w' => e = .returned (.tuple #[.string S, .int .i64 E]) ∧ Las w' base p mb s' L ∧ Below base w w' := by
  subst hE; subst hS; subst hs
  obtain ⟨F, vs, h⟩ := h
  exact (dread_any w base F p s i N h.1 hok hN hi).mono fun e w' h' => ⟨h'.1, h.disk (PD.mono5 h'.2.1) h'.2.2⟩
theorem l_barrier {w : World} {base p mb : Nat} {s : St} {L : Nat → List ByteArray} (h : Las w base p mb s L) {N : Nat} (hok : s.Ok N) (hN : N ≤ 5000) (E : Int) (s' : St) (hE : opE s true = E) (hs : barS s = s') :
    Calls Tryd.prog 21 #[.pointer (some ⟨p, 0, none⟩)] w fun e w' => e = .returned (.int .i64 E) ∧ Las w' base p mb s' L ∧ Below base w w' := by
  subst hE; subst hs
  obtain ⟨F, vs, h⟩ := h
  exact (dbarrier_any w base F p s N h.1 hok hN).mono fun e w' h' => ⟨h'.1, h.disk (PD.mono5 h'.2.1) h'.2.2⟩
theorem l_arm {w : World} {base p mb : Nat} {s : St} {L : Nat → List ByteArray} (h : Las w base p mb s L) (n : Int) (s' : St) (hs : armS s n = s') :
    Calls Tryd.prog 23 #[.pointer (some ⟨p, 0, none⟩), .int .i64 n] w fun e w' => e = .returned (.tuple #[]) ∧ Las w' base p mb s' L ∧ Below base w w' := by
  subst hs
  obtain ⟨F, vs, h⟩ := h
  exact (darm_any w base F p s n h.1).mono fun e w' h' => ⟨h'.1, h.disk (PD.mono5 h'.2.1) h'.2.2⟩
theorem l_boot {w : World} {base p mb : Nat} {s : St} {L : Nat → List ByteArray} (h : Las w base p mb s L) (vc : Value) (cs : List UInt8) {N : Nat} (hok : s.Ok N) (hN : N ≤ 5000) (hm : Masks w) (hc : Bts w vc cs) (s' : St) (hs : bootS s cs = s') :
    Calls Tryd.prog 25 #[.pointer (some ⟨p, 0, none⟩), vc] w fun e w' => e = .returned (.tuple #[]) ∧ Las w' base p mb s' L ∧ Below base w w' := by
  subst hs
  obtain ⟨F, vs, h⟩ := h
  exact (dboot_any w base F p s vc cs N h.1 hok hN h.2.2.2.2.2.2 hm hc).mono fun e w' h' => ⟨h'.1, h.disk h'.2.1 h'.2.2⟩
theorem l_off {w : World} {base p mb : Nat} {s : St} {L : Nat → List ByteArray} (h : Las w base p mb s L) (B : Bool) (hB : s.off = B) : Calls Tryd.prog 27 #[.pointer (some ⟨p, 0, none⟩)] w fun e w' => e = .returned (.bool B) ∧ w = w' := by
  subst hB; obtain ⟨F, vs, h⟩ := h; exact doff_any w base F p s h.1
theorem l_pending {w : World} {base p mb : Nat} {s : St} {L : Nat → List ByteArray} (h : Las w base p mb s L) (n : Int) (hn : ((s.pend.length : Nat) : Int) = n) : Calls Tryd.prog 29 #[.pointer (some ⟨p, 0, none⟩)] w fun e w' => e = .returned (.int .i64 n) ∧ w = w' := by
  subst hn; obtain ⟨F, vs, h⟩ := h; exact dpending_any w base F p s h.1
end Go.Proofs.YtcoegaipojnndaaDoor
