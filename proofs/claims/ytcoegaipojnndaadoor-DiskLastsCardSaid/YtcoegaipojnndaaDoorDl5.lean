/-
  What holds between the disk and the lists of contents, as the writes go on; pure.
-/
import Derived.Test.YtcoegaipojnndaaDoorDl4
namespace Go.Proofs.YtcoegaipojnndaaDoor
open Go.RowKit Go.Maps

theorem len_write' (s : St) (i : Int) (d : ByteArray) : (writeT s i d).secs.length = s.secs.length := by
  unfold writeT; split
  · exact congrArg List.length (opS_secs s _).1
  · exact congrArg List.length (opS_secs s _).1
/-- A disk that is on, not armed, without pending writes. -/
def Quiet' (s : St) : Prop := s.off = false ∧ s.armed = false ∧ s.pend = []
theorem Quiet'.op {s : St} (h : Quiet' s) (m : Bool) : Quiet' (opS s m) := by
  obtain ⟨h1, h2, h3⟩ := h
  unfold opS
  rw [if_neg (by rw [h1]; decide)]
  cases m
  · rw [if_pos (show (!false) = true from rfl)]; exact ⟨h1, h2, h3⟩
  · rw [if_neg (show ¬ (!true) = true by decide), if_neg (by rw [h2]; decide)]; exact ⟨h1, h2, h3⟩
theorem Quiet'.read {s : St} (h : Quiet' s) {m : Nat} (hm : m < s.secs.length) : opE s (hasF s (m : Int)) = 0 ∧ readS s (m : Int) = s.secs.getD m noS := by
  obtain ⟨h1, h2, h3⟩ := h
  have hh : hasF s (m : Int) = true := by unfold hasF; rw [decide_eq_true (by omega), decide_eq_true (by omega)]; rfl
  have hE : opE s true = 0 := by unfold opE; rw [h1, h2]; rfl
  refine ⟨by rw [hh]; exact hE, ?_⟩
  unfold readS
  rw [hh, if_pos hE, h3]
  rfl
/-- The lists are the contents that each sector may have. -/
def Inv (s : St) (L : Nat → List ByteArray) (N : Nat) : Prop := s.Ok N ∧ s.secs.length = 64 ∧ ∀ k, k < 8 → L k = mayK s.secs s.pend k
theorem Inv.more {s : St} {L : Nat → List ByteArray} {N M : Nat} (h : Inv s L N) (hm : N ≤ M) : Inv s L M := ⟨h.1.more hm, h.2⟩
theorem Inv.op {s : St} {L : Nat → List ByteArray} {N : Nat} (h : Inv s L N) (m : Bool) : Inv (opS s m) L (N + 1) := by
  obtain ⟨h1, h2, h3⟩ := h
  obtain ⟨e1, e2⟩ := opS_secs s m
  refine ⟨h1.op m, by rw [e1]; exact h2, fun k hk => by rw [e1, e2]; exact h3 k hk⟩
theorem Inv.write {s : St} {L : Nat → List ByteArray} {N : Nat} (h : Inv s L N) (k : Nat) (hk : k < 8) (d : ByteArray) (hE : opE s (mayW s (k : Int) d) = 0) : Inv (writeT s (k : Int) d) (fun i => if i = k then L k ++ [d] else L i) (N + 1) := by
  obtain ⟨h1, h2, h3⟩ := h
  obtain ⟨e1, e2⟩ := opS_secs s (mayW s (k : Int) d)
  have hw : writeT s (k : Int) d = { opS s (mayW s (k : Int) d) with pend := s.pend ++ [((k : Int), d)] } := by unfold writeT; rw [if_pos hE]
  refine ⟨h1.write _ _, by rw [len_write']; exact h2, fun i hi => ?_⟩
  rw [hw]
  show _ = mayK (opS s (mayW s (k : Int) d)).secs (s.pend ++ [((k : Int), d)]) i
  rw [e1, mayK_snoc]
  by_cases hik : i = k
  · subst hik; simp only [if_true]; rw [h3 i hi]
  · have : ¬ (((k : Int), d).1 = (i : Int)) := by simp; omega
    rw [if_neg this]; simp only [hik, if_false]; exact h3 i hi
theorem Inv.fail {s : St} {L : Nat → List ByteArray} {N : Nat} (h : Inv s L N) (i : Int) (d : ByteArray) (hE : opE s (mayW s i d) ≠ 0) : Inv (writeT s i d) L (N + 1) := by
  have hw : writeT s i d = opS s (mayW s i d) := by unfold writeT; rw [if_neg hE]
  rw [hw]; exact h.op _
theorem Inv.barNo {s : St} {L : Nat → List ByteArray} {N : Nat} (h : Inv s L N) (hE : opE s true ≠ 0) : Inv (barS s) L (N + 1) := by
  have hw : barS s = opS s true := by unfold barS; rw [if_neg hE]
  rw [hw]; exact h.op _
theorem Inv.bar {s : St} {L : Nat → List ByteArray} {N : Nat} (h : Inv s L N) (hE : opE s true = 0) : Inv (barS s) (fun i => [(barS s).secs.getD i noS]) (N + 1) ∧ ∀ j, j < 8 → (L j).getLast? = some ((barS s).secs.getD j noS) := by
  obtain ⟨h1, h2, h3⟩ := h
  have hw : barS s = { opS s true with secs := laidF s.pend s.secs, pend := [] } := by unfold barS; rw [if_pos hE]
  refine ⟨⟨h1.bar, ?_, fun k _ => ?_⟩, fun j hj => ?_⟩
  · rw [hw]; show (laidF s.pend s.secs).length = 64; rw [laidF_length]; exact h2
  · rw [hw]; rfl
  · rw [hw, h3 j hj, mayK_last]
    show some _ = some ((laidF s.pend s.secs).getD j noS)
    rw [laid_stand s.pend j s.secs (fun x hx => by obtain ⟨m, e, _⟩ := h1.each x hx; omega) (by omega)]
theorem Inv.ne {s : St} {L : Nat → List ByteArray} {N : Nat} (h : Inv s L N) {k : Nat} (hk : k < 8) : L k ≠ [] := by rw [h.2.2 k hk]; exact mayK_ne _ _ _
theorem Inv.len {s : St} {L : Nat → List ByteArray} {N : Nat} (h : Inv s L N) {k : Nat} (hk : k < 8) : (L k).length ≤ N + 1 := by
  rw [h.2.2 k hk]
  unfold mayK
  have := h.1.plen
  have h2 := List.length_filter_le (fun x : Int × ByteArray => decide (x.1 = (k : Int))) s.pend
  simp only [List.length_cons, List.length_map]
  omega
theorem Inv.size {s : St} {L : Nat → List ByteArray} {N : Nat} (h : Inv s L N) {k : Nat} (hk : k < 8) : ∀ d ∈ L k, d.size = 256 := by
  intro d hd
  rw [h.2.2 k hk] at hd
  unfold mayK at hd
  rcases List.mem_cons.1 hd with h1 | h1
  · rw [h1]; exact whole_getD h.1.whole k (by rw [h.2.1]; omega)
  · obtain ⟨x, hx, rfl⟩ := List.mem_map.1 h1
    obtain ⟨_, _, _, h4⟩ := h.1.each x (List.mem_filter.1 hx).1
    exact h4
theorem write_may {s : St} (h : s.secs.length = 64) (k : Nat) (hk : k < 8) (d : ByteArray) (hd : d.size = 256) : mayW s (k : Int) d = true := by
  unfold mayW hasF; rw [decide_eq_true (by omega), decide_eq_true (by omega), decide_eq_true hd]; rfl
theorem has_may {s : St} (h : s.secs.length = 64) (k : Nat) (hk : k < 8) : hasF s (k : Int) = true := by
  unfold hasF; rw [decide_eq_true (by omega), decide_eq_true (by omega)]; rfl
theorem read_back {s : St} (k : Nat) (d : ByteArray) (hE : opE s (mayW s (k : Int) d) = 0) (hE2 : opE (writeT s (k : Int) d) (hasF (writeT s (k : Int) d) (k : Int)) = 0) : readS (writeT s (k : Int) d) (k : Int) = d := by
  unfold readS
  rw [if_pos hE2]
  have hw : (writeT s (k : Int) d).pend = s.pend ++ [((k : Int), d)] := by unfold writeT; rw [if_pos hE]
  rw [hw, standF_snoc, if_pos rfl]
/-- What the power leaves. -/
theorem Inv.boot {s : St} {L : Nat → List ByteArray} {N : Nat} (h : Inv s L N) (cs : List UInt8) : Quiet' (bootS s cs) ∧ (bootS s cs).Ok N ∧ (bootS s cs).secs.length = 64 ∧
    ∃ TA : Nat → Prop, (∀ i j, TA i → TA j → i = j) ∧ ∀ k, k < 8 → ((bootS s cs).secs.getD k noS).size = 256 ∧ (((bootS s cs).secs.getD k noS) ∈ L k ∨ (Parted (L k) ((bootS s cs).secs.getD k noS) ∧ TA k)) := by
  obtain ⟨h1, h2, h3⟩ := h
  have hok := h1.boot cs
  have hl : (bootS s cs).secs.length = 64 := by show (afterF _ _ _ _ _).length = 64; rw [afterF_length]; exact h2
  refine ⟨⟨rfl, rfl, rfl⟩, hok, hl, TornAt s.pend (tornF cs (manyN (s.pend.length : Int))), fun i j => torn_one, fun k hk => ⟨whole_getD hok.whole k (by rw [hl]; omega), ?_⟩⟩
  rw [h3 k hk]
  exact after_mixed s.secs s.pend _ _ _ k (by omega) (fun x hx => by obtain ⟨_, _, _, h4⟩ := h1.each x hx; exact h4)
end Go.Proofs.YtcoegaipojnndaaDoor
