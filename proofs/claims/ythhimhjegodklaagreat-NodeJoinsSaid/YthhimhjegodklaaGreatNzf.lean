/-
  Made nodes may be, the parts of a cut of a node that may be may be, and are it when joined, and those of the best cut fit where a node with one item less fits: plain mathematics, over this seat's translation; conditions: those that each law states.
-/
import Derived.Test.YthhimhjegodklaaGreatNzd
namespace Go.Proofs.YthhimhjegodklaaGreat.N11
set_option linter.unusedSimpArgs false
set_option linter.unusedVariables false
open Go.RowKit
theorem size_arr (l : List UInt8) : (⟨l.toArray⟩ : ByteArray).size = l.length := by rw [← size_list]
theorem numAt_lt (L : List UInt8) (i : Nat) : numAt L i < 256 := UInt8.toNat_lt _
theorem keyM_may (h : ByteArray) (L : List UInt8) (i : Nat) : keyB (keyF h L i) = true := by
  have hs : (keyF h L i).size = min 30 h.data.toList.length + (numAt L i % 9 + 1) := by
    unfold keyF keyL zer
    rw [size_arr, List.length_append, List.length_take, List.length_cons, List.length_replicate]
  unfold keyB
  rw [hs, Bool.and_eq_true, decide_eq_true_eq, decide_eq_true_eq]
  omega
theorem cellM_may (h : ByteArray) (L : List UInt8) (i : Nat) : cellB (cellM h L i) = true := by
  have hx := numAt_lt L i
  unfold cellB
  rw [cellM_key, keyM_may, Bool.true_and]
  unfold cellM
  split
  · rename_i h40
    have : longB ⟨keyF h L i, noS, 1 + (numAt L i : Int), (numAt L i : Int) % 50 + 7 * (numAt L i : Int)⟩ = true := by
      unfold longB pageB
      simp only [Bool.and_eq_true, decide_eq_true_eq]
      refine ⟨⟨⟨rfl, by omega, by omega⟩, by omega⟩, by omega⟩
    rw [this, Bool.or_true]
  · rename_i h40
    have : shortB ⟨keyF h L i, ⟨(zer (numAt L i % 50)).toArray⟩, 0, 0⟩ = true := by
      unfold shortB
      simp only [Bool.and_eq_true, decide_eq_true_eq]
      refine ⟨⟨by rw [size_arr]; unfold zer; rw [List.length_replicate]; omega, by first | trivial | rfl⟩, by first | trivial | rfl⟩
    rw [this, Bool.true_or]
theorem kidM_may (L : List UInt8) (i : Nat) : pageB (kidM L i) = true := by
  have hx := numAt_lt L i
  unfold pageB kidM
  simp only [Bool.and_eq_true, decide_eq_true_eq]
  omega
theorem cellsM_rise (h : ByteArray) (L : List UInt8) (k : Nat) (hk : k ≤ 255) : riseF ((cellsM h L k).map Ce.key) = true := by
  refine pair_riseF _ ?_
  rw [List.pairwise_map]
  exact cells_pair h L k hk
theorem keysM_rise (h : ByteArray) (L : List UInt8) (k : Nat) (hk : k ≤ 255) : riseF (keysM h L k) = true := pair_riseF _ (keys_pair h L k hk)
theorem cellsM_take (h : ByteArray) (L : List UInt8) (k m : Nat) (hm : m ≤ k) (hk : k ≤ L.length) : cellsM h (L.take k) m = cellsM h L m := by
  unfold cellsM
  refine List.map_congr_left fun i hi => ?_
  have hi2 : i < k := by have := List.mem_range.1 hi; omega
  have hn : numAt (L.take k) i = numAt L i := by
    unfold numAt
    rw [List.getD_eq_getElem?_getD, List.getD_eq_getElem?_getD, List.getElem?_take_of_lt hi2]
  unfold cellM keyF keyL
  rw [hn]
theorem keysM_take (h : ByteArray) (L : List UInt8) (k m : Nat) (hm : m ≤ k) (hk : k ≤ L.length) : keysM h (L.take k) m = keysM h L m := by
  unfold keysM
  refine List.map_congr_left fun i hi => ?_
  have hi2 : i < k := by have := List.mem_range.1 hi; omega
  have hn : numAt (L.take k) i = numAt L i := by
    unfold numAt
    rw [List.getD_eq_getElem?_getD, List.getD_eq_getElem?_getD, List.getElem?_take_of_lt hi2]
  unfold keyF keyL
  rw [hn]
theorem may_leaf {n : Nd} (hl : n.leaf = true) : n.may = true ↔ 0 < n.cells.length ∧ n.keys.length = 0 ∧ n.kids.length = 0 ∧ (∀ x ∈ n.cells, cellB x = true) ∧ riseF (n.cells.map Ce.key) = true := by
  unfold Nd.may
  rw [if_pos hl]
  simp only [Bool.and_eq_true, decide_eq_true_eq, List.all_eq_true]
  exact ⟨fun h => ⟨h.1.1.1.1, h.1.1.1.2, h.1.1.2, h.1.2, h.2⟩, fun ⟨a, b, c, d, e⟩ => ⟨⟨⟨⟨a, b⟩, c⟩, d⟩, e⟩⟩
theorem may_inner {n : Nd} (hl : n.leaf = false) : n.may = true ↔ n.cells.length = 0 ∧ 0 < n.keys.length ∧ n.kids.length = n.keys.length + 1 ∧ (∀ x ∈ n.keys, keyB x = true) ∧ riseF n.keys = true ∧ (∀ x ∈ n.kids, pageB x = true) := by
  unfold Nd.may
  rw [if_neg (by rw [hl]; exact Bool.false_ne_true)]
  simp only [Bool.and_eq_true, decide_eq_true_eq, List.all_eq_true]
  exact ⟨fun h => ⟨h.1.1.1.1.1, h.1.1.1.1.2, h.1.1.1.2, h.1.1.2, h.1.2, h.2⟩, fun ⟨a, b, c, d, e, f⟩ => ⟨⟨⟨⟨⟨a, b⟩, c⟩, d⟩, e⟩, f⟩⟩
theorem leafM_may (h : ByteArray) (L : List UInt8) (hL : 0 < L.length) : (leafM h L).may = true := by
  rw [may_leaf rfl]
  refine ⟨by rw [show (leafM h L).cells.length = min L.length 30 from cellsM_length h L _]; omega, rfl, rfl, ?_, cellsM_rise h L _ (by omega)⟩
  intro x hx
  obtain ⟨i, _, rfl⟩ := List.mem_map.1 (show x ∈ (List.range (min L.length 30)).map (cellM h L) from hx)
  exact cellM_may h L i
theorem innerM_may (h : ByteArray) (L : List UInt8) (hL : 0 < L.length) : (innerM h L).may = true := by
  rw [may_inner rfl]
  have hk : (innerM h L).keys.length = min L.length 30 := keysM_length h L _
  have hi : (innerM h L).kids.length = min L.length 30 + 1 := by unfold innerM kidsM; simp
  refine ⟨rfl, by rw [hk]; omega, by rw [hk, hi], ?_, keysM_rise h L _ (by omega), ?_⟩
  · intro x hx
    obtain ⟨i, _, rfl⟩ := List.mem_map.1 (show x ∈ (List.range (min L.length 30)).map (keyF h L) from hx)
    exact keyM_may h L i
  · intro x hx
    rcases List.mem_cons.1 (show x ∈ 9 :: (List.range (min L.length 30)).map (kidM L) from hx) with rfl | hx
    · rfl
    · obtain ⟨i, _, rfl⟩ := List.mem_map.1 hx
      exact kidM_may L i
theorem leafM_none (h : ByteArray) (L : List UInt8) (hL : L.length = 0) : (leafM h L).may = false := by
  have : L = [] := List.eq_nil_of_length_eq_zero hL
  subst this; rfl
theorem innerM_none (h : ByteArray) (L : List UInt8) (hL : L.length = 0) : (innerM h L).may = false := by
  have : L = [] := List.eq_nil_of_length_eq_zero hL
  subst this; rfl
theorem rise_sub {l r : List ByteArray} (h : riseF r = true) (hs : l.Sublist r) : riseF l = true := pair_riseF _ ((riseF_pair _ h).sublist hs)
/-- The parts of a cut may be; joined they are the node. -/
theorem cut_may {n A B : Nd} {r : Nat} {k : ByteArray} (hm : n.may = true) (hb : BestN n r) (hf : n.few = false) (hc : IsCut n r A B k) : A.may = true ∧ B.may = true ∧ joinN A B k = n ∧ A.leaf = n.leaf ∧ B.leaf = n.leaf := by
  obtain ⟨h1, h2⟩ := hb
  rcases hc with ⟨hl, x, hx, rfl, rfl, rfl⟩ | ⟨hl, hx, rfl, rfl⟩
  · obtain ⟨q1, q2, q3, q4, q5⟩ := (may_leaf hl).1 hm
    have hr := (List.getElem?_eq_some_iff.1 hx).1
    refine ⟨(may_leaf rfl).2 ⟨by show 0 < (n.cells.take r).length; rw [List.length_take]; omega, rfl, rfl, fun x hx => q4 x (List.mem_of_mem_take hx), ?_⟩, (may_leaf rfl).2 ⟨by show 0 < (n.cells.drop r).length; rw [List.length_drop]; omega, rfl, rfl, fun x hx => q4 x (List.mem_of_mem_drop hx), ?_⟩, ?_, hl.symm, hl.symm⟩
    · exact rise_sub q5 ((List.take_sublist r n.cells).map Ce.key)
    · exact rise_sub q5 ((List.drop_sublist r n.cells).map Ce.key)
    · obtain ⟨lf, cs, ks, is⟩ := n
      obtain rfl : ks = [] := List.eq_nil_of_length_eq_zero q2
      obtain rfl : is = [] := List.eq_nil_of_length_eq_zero q3
      obtain rfl : lf = true := hl
      show (⟨true, cs.take r ++ cs.drop r, [], []⟩ : Nd) = _
      rw [List.take_append_drop]
  · obtain ⟨q1, q2, q3, q4, q5, q6⟩ := (may_inner hl).1 hm
    have hr := (List.getElem?_eq_some_iff.1 hx).1
    have hr2 : r + 1 < n.keys.length := by
      rw [if_neg (by rw [hl]; exact Bool.false_ne_true)] at h2
      rcases h2 with ⟨h3, _⟩ | ⟨_, h4, _⟩
      · omega
      · exact h4
    refine ⟨(may_inner rfl).2 ⟨rfl, by show 0 < (n.keys.take r).length; rw [List.length_take]; omega, by show (n.kids.take (r + 1)).length = (n.keys.take r).length + 1; rw [List.length_take, List.length_take]; omega, fun x hx => q4 x (List.mem_of_mem_take hx), rise_sub q5 (List.take_sublist r n.keys), fun x hx => q6 x (List.mem_of_mem_take hx)⟩,
      (may_inner rfl).2 ⟨rfl, by show 0 < (n.keys.drop (r + 1)).length; rw [List.length_drop]; omega, by show (n.kids.drop (r + 1)).length = (n.keys.drop (r + 1)).length + 1; rw [List.length_drop, List.length_drop]; omega, fun x hx => q4 x (List.mem_of_mem_drop hx), rise_sub q5 (List.drop_sublist (r + 1) n.keys), fun x hx => q6 x (List.mem_of_mem_drop hx)⟩, ?_, hl.symm, hl.symm⟩
    obtain ⟨lf, cs, ks, is⟩ := n
    obtain rfl : cs = [] := List.eq_nil_of_length_eq_zero q1
    obtain rfl : lf = false := hl
    show (⟨false, [], ks.take r ++ k :: ks.drop (r + 1), is.take (r + 1) ++ is.drop (r + 1)⟩ : Nd) = _
    have hk : k :: ks.drop (r + 1) = ks.drop r := by
      have := (List.getElem?_eq_some_iff.1 hx).2
      rw [← this]; exact (List.drop_eq_getElem_cons hr).symm
    rw [hk, List.take_append_drop, List.take_append_drop]
/-- The parts of the best cut fit, where the node with one cell less does. -/
theorem room_leaf {n A B : Nd} {r : Nat} {k : ByteArray} (hl : n.leaf = true) (hm : n.may = true) (hb : BestN n r) (hf : n.few = false) (hc : IsCut n r A B k) (hw : 2 + sumF cellSz (n.cells.take (n.cells.length - 1)) ≤ 240) : A.fits = true ∧ B.fits = true := by
  obtain ⟨mA, mB, _, lA, lB⟩ := cut_may hm hb hf hc
  obtain ⟨h1, h2⟩ := hb
  rw [if_pos hl] at h2
  obtain ⟨q1, q2, q3, q4, q5⟩ := (may_leaf hl).1 hm
  have hlen : 2 ≤ n.cells.length := by
    unfold Nd.few at hf
    rw [hm, if_pos hl] at hf
    simp at hf; omega
  obtain ⟨x, hx⟩ : ∃ x, n.cells[n.cells.length - 1]? = some x := ⟨_, List.getElem?_eq_getElem (by omega)⟩
  have hlast : sumF cellSz (n.cells.drop (n.cells.length - 1)) ≤ 82 := by
    rw [sumF_drop cellSz n.cells _ x hx, List.drop_of_length_le (by omega)]
    have := (cellSz_le x (q4 x (List.mem_of_getElem? hx))).2
    simpa [sumF] using this
  rcases h2 with ⟨h3, _⟩ | ⟨_, h4, h5⟩
  · omega
  · have h6 := h5 (n.cells.length - 1) (by omega) (by omega)
    unfold mxF at h6
    rw [Nat.add_zero, Nat.add_zero] at h6
    rcases hc with ⟨_, y, hy, rfl, rfl, rfl⟩ | ⟨hl2, _⟩
    · have sA : Nd.size ⟨true, n.cells.take r, [], []⟩ = 2 + sumF cellSz (n.cells.take r) := rfl
      have sB : Nd.size ⟨true, n.cells.drop r, [], []⟩ = 2 + sumF cellSz (n.cells.drop r) := rfl
      unfold Nd.fits
      rw [mA, mB, sA, sB]
      simp only [Bool.true_and, decide_eq_true_eq]
      omega
    · rw [hl] at hl2; cases hl2
theorem room_inner {n A B : Nd} {r : Nat} {k : ByteArray} (hl : n.leaf = false) (hm : n.may = true) (hb : BestN n r) (hf : n.few = false) (hc : IsCut n r A B k) (hw : 4 + sumF keySz (n.keys.take (n.keys.length - 1)) ≤ 240) : A.fits = true ∧ B.fits = true := by
  obtain ⟨mA, mB, _, lA, lB⟩ := cut_may hm hb hf hc
  obtain ⟨h1, h2⟩ := hb
  rw [if_neg (by rw [hl]; exact Bool.false_ne_true)] at h2
  obtain ⟨q1, q2, q3, q4, q5, q6⟩ := (may_inner hl).1 hm
  have hlen : 3 ≤ n.keys.length := by
    unfold Nd.few at hf
    rw [hm, if_neg (by rw [hl]; exact Bool.false_ne_true)] at hf
    simp at hf; omega
  obtain ⟨x, hx⟩ : ∃ x, n.keys[n.keys.length - 1]? = some x := ⟨_, List.getElem?_eq_getElem (by omega)⟩
  obtain ⟨y, hy⟩ : ∃ y, n.keys[n.keys.length - 2]? = some y := ⟨_, List.getElem?_eq_getElem (by omega)⟩
  have hlast : sumF keySz (n.keys.drop (n.keys.length - 2 + 1)) ≤ 43 := by
    rw [show n.keys.length - 2 + 1 = n.keys.length - 1 by omega, sumF_drop keySz n.keys _ x hx, List.drop_of_length_le (by omega)]
    have := (keySz_le x (q4 x (List.mem_of_getElem? hx))).2
    simpa [sumF] using this
  have htake : sumF keySz (n.keys.take (n.keys.length - 2)) ≤ sumF keySz (n.keys.take (n.keys.length - 1)) := by
    have := sumF_take keySz n.keys _ y hy
    rw [show n.keys.length - 2 + 1 = n.keys.length - 1 by omega] at this
    omega
  rcases h2 with ⟨h3, _⟩ | ⟨_, h4, h5⟩
  · omega
  · have h6 := h5 (n.keys.length - 2) (by omega) (by omega)
    unfold mxF at h6
    rcases hc with ⟨hl2, _⟩ | ⟨_, hy2, rfl, rfl⟩
    · rw [hl] at hl2; cases hl2
    · have sA : Nd.size ⟨false, [], n.keys.take r, n.kids.take (r + 1)⟩ = 4 + sumF keySz (n.keys.take r) := rfl
      have sB : Nd.size ⟨false, [], n.keys.drop (r + 1), n.kids.drop (r + 1)⟩ = 4 + sumF keySz (n.keys.drop (r + 1)) := rfl
      unfold Nd.fits
      rw [mA, mB, sA, sB]
      simp only [Bool.true_and, decide_eq_true_eq]
      omega
end Go.Proofs.YthhimhjegodklaaGreat.N11

