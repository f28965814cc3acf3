/-
  What is asked of any node that lies, in NodeBack's words (its bytes, what is read of them, its parts and what they are joined to): contracts over this seat's translation; conditions: at most 100,000 of each.
-/
import Derived.Test.YthhimhjegodklaaGreatNzg
namespace Go.Proofs.YthhimhjegodklaaGreat.N11
set_option linter.unusedSimpArgs false
set_option linter.unusedVariables false
open Go.RowKit
theorem gs_own {W w w' : World} {base j : Nat} {e : TypeId} {size : Nat} {v : Value} {n : Nat} {xs : List Value} (hg : W.grownBy w (some j)) (ho : w.ownsRow base e size v n xs) (hb : W.heap.size ≤ base) (h2 : w.grownBy w' v.ownBlock) : W.grownBy w' (some j) := by
  refine ⟨h2.os.trans hg.os, h2.tape.trans hg.tape, h2.output.trans hg.output, Nat.le_trans hg.size h2.size, ?_⟩
  intro k hk hj
  rw [← hg.block k hk hj]
  refine h2.block k (Nat.lt_of_lt_of_le hk hg.size) ?_
  intro e
  have := (ho.lt k e.symm).1
  omega
theorem gs_new {W w w' : World} {j : Nat} (hg : W.grownBy w (some j)) (h2 : w.grownBy w' none) : W.grownBy w' (some j) := gb_trans hg (gb_weak h2 _)
/-- A node in a block. -/
def NAt (w : World) (b : Nat) (n : Nd) : Prop := ∃ a1 m1 c1 a2 m2 c2 a3 m3 c3, Blk w b 26 #[.bool n.leaf, .slice a1 m1 c1, .slice a2 m2 c2, .slice a3 m3 c3] ∧ NdV w (.agg #[.bool n.leaf, .slice a1 m1 c1, .slice a2 m2 c2, .slice a3 m3 c3]) n
/-- What Put answers of a node that fits, and of one that does not. -/
theorem put_yes {n : Nd} {bs : ByteArray} (hf : n.fits = true) (hb : ⟨n.bytes.toArray⟩ = bs) (ho : n.Lim) (W : World) (v : Value) (hv : NdV W v n) : Calls Tryz.prog 14 #[v] W fun e w' => e = .returned (.tuple #[.string bs, .int .i64 0]) ∧ W.grownBy w' none :=
  (put_any v n W hv ho).mono fun e w' hq => by
    obtain ⟨he, hg⟩ := hq
    unfold Nd.fits at hf
    rw [Bool.and_eq_true, decide_eq_true_eq] at hf
    unfold putF at he
    rw [if_pos hf.1, if_pos hf.2] at he
    rw [← hb]
    exact ⟨he, hg⟩
theorem put_no {n : Nd} (hf : n.fits = false) (ho : n.Lim) : ∃ c : Int, c ≠ 0 ∧ ∀ (W : World) (v : Value), NdV W v n → Calls Tryz.prog 14 #[v] W fun e w' => e = .returned (.tuple #[.string noS, .int .i64 c]) ∧ W.grownBy w' none := by
  rcases hm : n.may with _ | _
  · refine ⟨2, by omega, fun W v hv => (put_any v n W hv ho).mono fun e w' hq => ?_⟩
    obtain ⟨he, hg⟩ := hq
    unfold putF at he
    rw [if_neg (by rw [hm]; exact Bool.false_ne_true)] at he
    exact ⟨he, hg⟩
  · refine ⟨4, by omega, fun W v hv => (put_any v n W hv ho).mono fun e w' hq => ?_⟩
    obtain ⟨he, hg⟩ := hq
    unfold Nd.fits at hf
    rw [hm, Bool.true_and, decide_eq_false_iff_not] at hf
    unfold putF at he
    rw [if_pos hm, if_neg hf] at he
    exact ⟨he, hg⟩
/-- What is read of a text of a node. -/
def GotN (n : Nd) (w : World) (e : Ending) (w' : World) : Prop := ∃ a1 c1 a2 c2 a3 c3, e = .returned (.tuple #[.agg #[.bool n.leaf, .slice a1 n.cells.length c1, .slice a2 n.keys.length c2, .slice a3 n.kids.length c3], .nilIface]) ∧ NdV w' (.agg #[.bool n.leaf, .slice a1 n.cells.length c1, .slice a2 n.keys.length c2, .slice a3 n.kids.length c3]) n ∧ w.grownBy w' none
theorem get_some {n : Nd} {s : ByteArray} (hs : s.size ≤ 9223372036854775807) (hg : getF s.data.toList = some n) (W : World) : Calls Tryz.prog 16 #[.string s] W (GotN n W) :=
  (get_any s W hs).mono fun e w' hq => by
    rw [hg] at hq
    obtain ⟨v, rfl, hv, hgr⟩ := hq
    obtain ⟨a1, c1, a2, c2, a3, c3, rfl⟩ := NdV.parts hv
    exact ⟨a1, c1, a2, c2, a3, c3, rfl, hv, hgr⟩
theorem get_back {n : Nd} {bs : ByteArray} (hf : n.fits = true) (hb : ⟨n.bytes.toArray⟩ = bs) (W : World) : Calls Tryz.prog 16 #[.string bs] W (GotN n W) := by
  unfold Nd.fits at hf
  rw [Bool.and_eq_true, decide_eq_true_eq] at hf
  refine get_some ?_ ?_ W
  · rw [← hb, size_arr, Nd.bytes_length n hf.1]; omega
  · rw [← hb]; exact getF_put n hf.1 hf.2
theorem same_half {n : Nd} (hh : n.Half) (W : World) (v u : Value) (hv : NdV W v n) (hu : NdV W u n) : Calls Tryz.prog 17 #[v, u] W fun e w' => e = .returned (.bool true) ∧ W.grownBy w' none := by
  have h1 := hh.cells
  have h2 := hh.keys
  have h3 := hh.kids
  exact same_eq v u n W hv hu (by omega) (by omega) (by omega)
theorem cut_half {n A B : Nd} {r : Nat} {k : ByteArray} (hc : IsCut n r A B k) (ho : n.Half) : A.Half ∧ B.Half := by
  have h1 := ho.cells
  have h2 := ho.keys
  have h3 := ho.kids
  rcases hc with ⟨_, x, _, rfl, rfl, rfl⟩ | ⟨_, _, rfl, rfl⟩
  · exact ⟨⟨by show (n.cells.take r).length ≤ 100000; rw [List.length_take]; omega, Nat.zero_le _, Nat.zero_le _⟩, ⟨by show (n.cells.drop r).length ≤ 100000; rw [List.length_drop]; omega, Nat.zero_le _, Nat.zero_le _⟩⟩
  · exact ⟨⟨Nat.zero_le _, by show (n.keys.take r).length ≤ 100000; rw [List.length_take]; omega, by show (n.kids.take (r + 1)).length ≤ 100000; rw [List.length_take]; omega⟩, ⟨Nat.zero_le _, by show (n.keys.drop (r + 1)).length ≤ 100000; rw [List.length_drop]; omega, by show (n.kids.drop (r + 1)).length ≤ 100000; rw [List.length_drop]; omega⟩⟩
/-- All of both parts, one behind the other. -/
def allN (lf : Bool) (A B : Nd) (k : ByteArray) : Nd := ⟨lf, A.cells ++ B.cells, (if lf then A.keys else A.keys ++ [k]) ++ B.keys, A.kids ++ B.kids⟩
theorem allN_join {A B : Nd} {lf : Bool} (k : ByteArray) (hA : A.may = true) (hB : B.may = true) (lA : A.leaf = lf) (lB : B.leaf = lf) : allN lf A B k = joinN A B k := by
  unfold allN joinN
  rw [lA]
  cases lf with
  | true =>
    obtain ⟨_, k1, k2, _⟩ := (may_leaf lA).1 hA
    obtain ⟨_, k3, k4, _⟩ := (may_leaf lB).1 hB
    rw [if_pos rfl, if_pos rfl, List.eq_nil_of_length_eq_zero k1, List.eq_nil_of_length_eq_zero k2, List.eq_nil_of_length_eq_zero k3, List.eq_nil_of_length_eq_zero k4]
    rfl
  | false =>
    obtain ⟨k1, _⟩ := (may_inner lA).1 hA
    obtain ⟨k3, _⟩ := (may_inner lB).1 hB
    rw [if_neg Bool.false_ne_true, if_neg Bool.false_ne_true, List.eq_nil_of_length_eq_zero k1, List.eq_nil_of_length_eq_zero k3, List.append_assoc]
    rfl
theorem all_inner {w : World} {a b c : Value} {n A B : Nd} {k : ByteArray} (hl : n.leaf = false) (hall : allN n.leaf A B k = n) (ha : Ces w a (A.cells ++ B.cells)) (hb : Sts w b (A.keys ++ [k] ++ B.keys)) (hc : Ins w c (A.kids ++ B.kids)) : NdV w (.agg #[.bool false, a, b, c]) n := by
  rw [hl] at hall
  rw [← hall]
  exact ⟨a, b, c, rfl, ha, hb, hc⟩
theorem all_leaf {w : World} {a b c : Value} {n A B : Nd} {k : ByteArray} (hl : n.leaf = true) (hall : allN n.leaf A B k = n) (ha : Ces w a (A.cells ++ B.cells)) (hb : Sts w b (A.keys ++ B.keys)) (hc : Ins w c (A.kids ++ B.kids)) : NdV w (.agg #[.bool true, a, b, c]) n := by
  rw [hl] at hall
  rw [← hall]
  exact ⟨a, b, c, rfl, ha, hb, hc⟩
/-- The parts of a node, and what hangs on them. -/
structure PartsOf (n A B : Nd) (k : ByteArray) : Prop where
  leafA : A.leaf = n.leaf
  leafB : B.leaf = n.leaf
  halfA : A.Half
  halfB : B.Half
  all : allN n.leaf A B k = n
  join : joinB A B k = n.fits ∧ joinN A B k = n
def PartsGot (n : Nd) (w : World) (e : Ending) (w' : World) : Prop := ∃ A B k a1 m1 c1 a2 m2 c2 a3 m3 c3 o1 l1 d1 o2 l2 d2 o3 l3 d3, e = .returned (.tuple #[.agg #[.bool n.leaf, .slice a1 m1 c1, .slice a2 m2 c2, .slice a3 m3 c3], .agg #[.bool n.leaf, .slice o1 l1 d1, .slice o2 l2 d2, .slice o3 l3 d3], .string k, .int .i64 0]) ∧
  NdV w' (.agg #[.bool n.leaf, .slice a1 m1 c1, .slice a2 m2 c2, .slice a3 m3 c3]) A ∧ NdV w' (.agg #[.bool n.leaf, .slice o1 l1 d1, .slice o2 l2 d2, .slice o3 l3 d3]) B ∧ PartsOf n A B k ∧ w.grownBy w' none
theorem few_may {n : Nd} (hf : n.few = false) : n.may = true := by
  unfold Nd.few at hf
  cases hm : n.may with
  | true => rfl
  | false => rw [hm] at hf; cases hf
theorem split_parts {n : Nd} (hf : n.few = false) (hh : n.Half) (W : World) (v : Value) (hv : NdV W v n) : Calls Tryz.prog 18 #[v] W (PartsGot n W) :=
  (split_yes v n W hv hh.lim hf).mono fun e w' hq => by
    obtain ⟨r, A, B, k, va, vb, hb, hc, rfl, hA, hB, hg⟩ := hq
    have hm := few_may hf
    obtain ⟨mA, mB, hj, lA, lB⟩ := cut_may hm hb hf hc
    obtain ⟨xA, xB⟩ := cut_half hc hh
    obtain ⟨a1, c1, a2, c2, a3, c3, rfl⟩ := NdV.parts hA
    obtain ⟨o1, d1, o2, d2, o3, d3, rfl⟩ := NdV.parts hB
    have hjb : joinB A B k = n.fits := by
      unfold joinB
      rw [lA, lB, mA, mB, hj, beq_self_eq_true]
      rfl
    have hall : allN n.leaf A B k = n := by rw [allN_join k mA mB lA lB, hj]
    refine ⟨A, B, k, a1, _, c1, a2, _, c2, a3, _, c3, o1, _, d1, o2, _, d2, o3, _, d3, by rw [lA, lB], by rw [← lA]; exact hA, by rw [← lB]; exact hB, ⟨lA, lB, xA, xB, hall, hjb, hj⟩, hg⟩
theorem split_few {n : Nd} (hf : n.few = true) (hh : n.Half) (W : World) (v : Value) (hv : NdV W v n) : Calls Tryz.prog 18 #[v] W (SplitNo W) := split_no v n W hv hh.lim hf
/-- What both parts are joined to. -/
def JoinYes (n : Nd) (w : World) (e : Ending) (w' : World) : Prop := ∃ a1 c1 a2 c2 a3 c3, e = .returned (.tuple #[.agg #[.bool n.leaf, .slice a1 n.cells.length c1, .slice a2 n.keys.length c2, .slice a3 n.kids.length c3], .bool true]) ∧ NdV w' (.agg #[.bool n.leaf, .slice a1 n.cells.length c1, .slice a2 n.keys.length c2, .slice a3 n.kids.length c3]) n ∧ w.grownBy w' none
def JoinNo (w : World) (e : Ending) (w' : World) : Prop := ∃ a1 c1 a2 c2 a3 c3, e = .returned (.tuple #[.agg #[.bool false, .slice a1 0 c1, .slice a2 0 c2, .slice a3 0 c3], .bool false]) ∧ w.grownBy w' none
theorem join_yes {n A B : Nd} {k : ByteArray} (hp : PartsOf n A B k) (hf : n.fits = true) (W : World) (v u : Value) (hv : NdV W v A) (hu : NdV W u B) : Calls Tryz.prog 10 #[v, u, .string k] W (JoinYes n W) :=
  (join_any v u A B k W hv hu hp.halfA hp.halfB).mono fun e w' hq => by
    unfold JoinGot at hq
    rw [hp.join.1, hp.join.2, hf] at hq
    obtain ⟨z, rfl, hz, hg⟩ := hq
    rw [if_pos rfl] at hz
    obtain ⟨a1, c1, a2, c2, a3, c3, rfl⟩ := NdV.parts hz
    exact ⟨a1, c1, a2, c2, a3, c3, rfl, hz, hg⟩
theorem join_no {n A B : Nd} {k : ByteArray} (hp : PartsOf n A B k) (hf : n.fits = false) (W : World) (v u : Value) (hv : NdV W v A) (hu : NdV W u B) : Calls Tryz.prog 10 #[v, u, .string k] W (JoinNo W) :=
  (join_any v u A B k W hv hu hp.halfA hp.halfB).mono fun e w' hq => by
    unfold JoinGot at hq
    rw [hp.join.1, hf] at hq
    obtain ⟨z, rfl, hz, hg⟩ := hq
    rw [if_neg Bool.false_ne_true] at hz
    obtain ⟨a1, c1, a2, c2, a3, c3, rfl⟩ := NdV.parts hz
    exact ⟨a1, c1, a2, c2, a3, c3, rfl, hg⟩
/-- A node that is read is small. -/
theorem got_half {l : List UInt8} {n : Nd} (hg : getF l = some n) : n.Half ∧ n.fits = true := by
  obtain ⟨hm, hb, hl⟩ := getF_got hg
  have hz : n.size ≤ 240 := by rw [← Nd.bytes_length n hm, hb]; exact hl
  refine ⟨?_, by unfold Nd.fits; rw [hm, decide_eq_true hz]; rfl⟩
  rcases hlf : n.leaf with _ | _
  · obtain ⟨k1, _, k2, k3, _⟩ := (may_inner hlf).1 hm
    have := len_keys k3
    have hs : n.size = 4 + sumF keySz n.keys := by unfold Nd.size; rw [hlf]; rfl
    exact ⟨by omega, by omega, by omega⟩
  · obtain ⟨_, k1, k2, k3, _⟩ := (may_leaf hlf).1 hm
    have := len_cells k3
    have hs : n.size = 2 + sumF cellSz n.cells := by unfold Nd.size; rw [hlf]; rfl
    exact ⟨by omega, by omega, by omega⟩
end Go.Proofs.YthhimhjegodklaaGreat.N11

