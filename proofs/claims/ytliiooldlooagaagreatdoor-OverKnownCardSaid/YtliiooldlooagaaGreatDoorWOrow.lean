/-
  What the statements' condition on the listed variables gives, a world that meets it, and what rounds that came in read as, over this seat's translation; no conditions beside.
-/
import Derived.ChangeSame
import Derived.ChangeVars
import Derived.JoinedOf
import Derived.RowKit
import Derived.RowKitTokens
import Derived.LaidLaws
import Derived.LaidHandle
import Derived.Stop.Joined
import Derived.Carry
import Derived.ChangeSlices
import Derived.OpenShut
import Derived.ChangeMaps5
import Derived.Deep.Slices
import Derived.Lib.SmallJoins
import Derived.Test.YtliiooldlooagaaGreatDoorRows
import Derived.Test.YtliiooldlooagaaGreatDoorCards
import Derived.Test.YtliiooldlooagaaGreatDoorTie
import Derived.Test.YtliiooldlooagaaGreatDoorZO3
set_option linter.unusedSimpArgs false
set_option linter.unusedVariables false
namespace Go.Proofs.YtliiooldlooagaaGreatDoor.O12
open Go.ChangeShapes Go.WideShapes Go.RowKit J10

theorem Tryz.own : ownKnob Tryz.prog.godebug = none := by kernel_rfl
theorem Tryz.gPl : Tryz.prog.globalNamed "foyer/root.places" = some 0 := by kernel_rfl
theorem Tryz.gPlT : (Tryz.prog.globals[0]?).map (·.type) = some 197 := by kernel_rfl
theorem Tryz.gTab : Tryz.prog.globalNamed "math/bits.deBruijn64tab" = some 2 := by kernel_rfl
theorem Tryz.gTabT : (Tryz.prog.globals[2]?).map (·.type) = some 220 := by kernel_rfl
theorem Tryz.gEt : Tryz.prog.globalNamed "errors.errorType" = some 3 := by kernel_rfl
theorem Tryz.rt : (Tryz.prog.cutTypes.find? (·.1 == "internal/reflectlite.rtype")).map (·.2) = some 250 := by kernel_rfl
theorem Tryz.oneRow : ((List.range 289).filter fun t => Tryz.prog.rowNamed t [101, 114, 114, 111, 114]) = [94] := by kernel_rfl
theorem Tryz.ntypes : Tryz.prog.types.size = 289 := by kernel_rfl
theorem one_cell {cs : List Value} {i : Nat} {v : Value} (h : (cs.drop i).take 1 = [v]) : cs[i]? = some v := by
  have h3 : ((cs.drop i).take 1)[0]? = some v := by rw [h]; rfl
  rw [List.getElem?_take, if_pos (by omega), List.getElem?_drop, Nat.add_zero] at h3
  exact h3
theorem one_cell2 {cs : List Value} {i j n : Nat} {v : Value} (h : ((((cs.drop i).take n).drop j).take 1) = [v]) (hj : j < n) : cs[i + j]? = some v := by
  have h3 := one_cell h
  rw [List.getElem?_take, if_pos hj, List.getElem?_drop] at h3
  exact h3
set_option maxRecDepth 100000 in
theorem trod_pair {H : Type} {enc : TypeId × Value → H} {W : World} {base n : Nat} {sp : Nat → Bool} {hd : Bool} {cs : List Value} {x : DataW H × List MemPlace} {T a b : TypeId} (hu : Tryz.prog.underlying T = some (.struct (Tryz.prog.fieldsOf T))) (hf2 : (Tryz.prog.fieldsOf T).toList.map (fun f => (f.type, f.offset)) = [(a, 0), (b, 1)]) (ha : Tryz.prog.cellsOf a = 1) (hb : Tryz.prog.cellsOf b = 1)
    (h : DataW.trod enc Tryz.prog W base sp hd n T cs = some x) : ∃ y0 y1 m, x.1 = .agg [y0.1, y1.1] ∧ cs.length = Tryz.prog.cellsOf T ∧ DataW.trod enc Tryz.prog W base sp hd m a ((cs.drop 0).take 1) = some y0 ∧ DataW.trod enc Tryz.prog W base sp hd m b ((cs.drop 1).take 1) = some y1 := by
  obtain ⟨xs, k, _, hx, hl, hxl, hf⟩ := DataW.trod_struct hu h
  generalize Tryz.prog.fieldsOf T = fs at *
  obtain ⟨l⟩ := fs
  simp only at hf2
  have hl2 : l.length = 2 := by have := congrArg List.length hf2; simpa using this
  obtain ⟨f, g, rfl⟩ : ∃ f g, l = [f, g] := by
    match l, hl2 with
    | [f, g], _ => exact ⟨f, g, rfl⟩
  simp only [List.map_cons, List.map_nil, List.cons.injEq, Prod.mk.injEq, and_true] at hf2
  obtain ⟨⟨a1, a2⟩, b1, b2⟩ := hf2
  have f0 := hf 0 f rfl
  have f1 := hf 1 g rfl
  rw [a1, a2, ha] at f0
  rw [b1, b2, hb] at f1
  have hx2 : xs.length = 2 := hxl
  obtain ⟨y0, y1, rfl⟩ : ∃ y0 y1, xs = [y0, y1] := by
    match xs, hx2 with
    | [y0, y1], _ => exact ⟨y0, y1, rfl⟩
  have g0 := f0
  have g1 := f1
  exact ⟨y0, y1, k, by rw [hx]; rfl, hl, g0, g1⟩
set_option maxRecDepth 100000 in
/-- What a table of bytes that is listed lays. -/
theorem bytes_of {W : World} {g n : Nat} {name : String} {t : TypeId} {cs : Array Value} {fuel : Nat} {p : List MemPlace} {l : List (DataW Unit)} (hu : Tryz.prog.underlying t = some (.array n 5)) (e1 : Tryz.prog.globalNamed name = some g) (e3 : W.var? Tryz.prog name = some cs)
    (e4 : DataW.trod (fun _ => ()) Tryz.prog W 0 (fun _ => true) false fuel t cs.toList = some (.agg l, p)) (k : Nat) (hk : k < n) (z : Int) (hz : l[k]? = some (.lit (.int .u8 z))) : W.cell? ⟨g, k, none⟩ = some (.int .u8 z) := by
  obtain ⟨xs, m, _, hx, hlen, hxl, hi⟩ := DataW.trod_array hu e4
  have hc1 : Tryz.prog.cellsOf 5 = 1 := by kernel_rfl
  rw [World.var?_cell e1 e3 k]
  have h1 := hi k hk
  rw [hc1, Nat.mul_one] at h1
  have hxk : k < xs.length := by omega
  rw [List.getElem?_eq_getElem hxk] at h1
  obtain ⟨v, hn, hnx, _⟩ := DataW.trod_int Tryz.underlying5 h1
  have hl : (.agg l : DataW Unit) = .agg (xs.map (·.1)) := (Prod.mk.inj hx).1
  injection hl with hl
  rw [hl, List.getElem?_map, List.getElem?_eq_getElem hxk, Option.map_some, hnx] at hz
  have hd := Option.some.inj hz
  injection hd with hd
  injection hd with _ hd
  subst hd
  have := one_cell hn
  simpa using this
theorem tab_is : (Rows.laid_math_bits_deBruijn64tab : DataW Unit) = .agg (Lib.deBruijn64tab.map fun n => .lit (.int .u8 (n : Nat))) := rfl
theorem places_is : (Rows.laid_foyer_root_places : DataW Unit) = .agg ((List.range 4).map fun k => .agg [.lit (.int .i64 (R8.placesL.getD (2 * k) 0)), .lit (.int .i64 (R8.placesL.getD (2 * k + 1) 0))]) := rfl
def laid2 : List (String × DataW Unit) := [("foyer/root.places", Rows.laid_foyer_root_places), ("math/bits.deBruijn64tab", Rows.laid_math_bits_deBruijn64tab), ("errors.errorType", Rows.laid_errors_errorType)]
set_option maxRecDepth 100000 in
theorem pl_of {W : World} {g t : Nat} {cs : Array Value} {fuel : Nat} {p : List MemPlace} (e1 : Tryz.prog.globalNamed "foyer/root.places" = some g) (e2 : (Tryz.prog.globals[g]?).map (·.type) = some t) (e3 : W.var? Tryz.prog "foyer/root.places" = some cs)
    (e4 : DataW.trod (fun _ => ()) Tryz.prog W 0 (fun _ => true) false fuel t cs.toList = some (Rows.laid_foyer_root_places, p)) : R8.Pl W := by
  obtain rfl : 0 = g := Option.some.inj (Tryz.gPl.symm.trans e1)
  obtain rfl : 197 = t := Option.some.inj (Tryz.gPlT.symm.trans e2)
  obtain ⟨xs, m, _, hx, hlen, hxl, hi⟩ := DataW.trod_array Tryz.underlying197 e4
  have hc2 : Tryz.prog.cellsOf 196 = 2 := by kernel_rfl
  have hc1 : Tryz.prog.cellsOf 3 = 1 := by kernel_rfl
  have hdat := places_is.symm.trans (Prod.mk.inj hx).1
  injection hdat with hdat
  intro j hj
  rw [World.var?_cell Tryz.gPl e3 j]
  have hk : j / 2 < 4 := by omega
  have h1 := hi (j / 2) hk
  rw [hc2] at h1
  have hxk : j / 2 < xs.length := by omega
  rw [List.getElem?_eq_getElem hxk] at h1
  have hd : (xs.map (·.1))[j / 2]? = some (.agg [.lit (.int .i64 (R8.placesL.getD (2 * (j / 2)) 0)), .lit (.int .i64 (R8.placesL.getD (2 * (j / 2) + 1) 0))]) := by
    rw [← hdat, List.getElem?_map, List.getElem?_range hk]; rfl
  rw [List.getElem?_map, List.getElem?_eq_getElem hxk, Option.map_some] at hd
  have hd := Option.some.inj hd
  obtain ⟨y0, y1, n, hy, hyl, t0, t1⟩ := trod_pair Tryz.underlying196 (by kernel_rfl) hc1 hc1 h1
  obtain ⟨a, ha, hax, _⟩ := DataW.trod_int Tryz.underlying3 t0
  obtain ⟨b, hb, hbx, _⟩ := DataW.trod_int Tryz.underlying3 t1
  rw [hy] at hd
  simp only [DataW.agg.injEq, List.cons.injEq, and_true] at hd
  rw [hax, hbx] at hd
  obtain ⟨hd0, hd1⟩ := hd
  injection hd0 with hd0
  injection hd0 with _ hd0
  injection hd1 with hd1
  injection hd1 with _ hd1
  have g0 := one_cell2 (i := j / 2 * 2) (j := 0) (n := 2) ha (by decide)
  have g1 := one_cell2 (i := j / 2 * 2) (j := 1) (n := 2) hb (by decide)
  rw [hd0, Nat.add_zero] at g0
  rw [hd1] at g1
  rcases (show j = 2 * (j / 2) ∨ j = 2 * (j / 2) + 1 by omega) with e | e
  · rw [show j / 2 * 2 = j by omega] at g0
    rw [← e] at g0
    simpa using g0
  · rw [show j / 2 * 2 + 1 = j by omega] at g1
    rw [← e] at g1
    simpa using g1
set_option maxRecDepth 100000 in
theorem tab_of {W : World} {g t : Nat} {cs : Array Value} {fuel : Nat} {p : List MemPlace} (e1 : Tryz.prog.globalNamed "math/bits.deBruijn64tab" = some g) (e2 : (Tryz.prog.globals[g]?).map (·.type) = some t) (e3 : W.var? Tryz.prog "math/bits.deBruijn64tab" = some cs)
    (e4 : DataW.trod (fun _ => ()) Tryz.prog W 0 (fun _ => true) false fuel t cs.toList = some (Rows.laid_math_bits_deBruijn64tab, p)) : M6.Tab W := by
  obtain rfl : 2 = g := Option.some.inj (Tryz.gTab.symm.trans e1)
  obtain rfl : 220 = t := Option.some.inj (Tryz.gTabT.symm.trans e2)
  rw [tab_is] at e4
  intro k hk
  have hk64 : k < Lib.deBruijn64tab.length := hk
  exact bytes_of Tryz.underlying220 Tryz.gTab e3 e4 k hk _ (by rw [List.getElem?_map, List.getElem?_eq_getElem hk64, List.getD_eq_getElem?_getD, List.getElem?_eq_getElem hk64]; rfl)
set_option maxRecDepth 100000 in
theorem hd_of {W : World} (h : handlesMet Tryz.prog [("errors.errorType", Rows.laid_errors_errorType)] W) : Hd W := by
  obtain ⟨name, u, ty, e1, e2, e3, e4, e5⟩ := h _ (List.mem_singleton.2 rfl)
  have en : name = [101, 114, 114, 111, 114] := (Option.some.inj e1).symm
  subst en
  obtain rfl := Option.some.inj (Tryz.rt.symm.trans e2)
  have hm : ty ∈ (List.range 289).filter fun t => Tryz.prog.rowNamed t [101, 114, 114, 111, 114] := List.mem_filter.2 ⟨List.mem_range.2 (by rw [← Tryz.ntypes]; exact e3), e4⟩
  rw [Tryz.oneRow] at hm
  obtain rfl := List.mem_singleton.1 hm
  have hh : typeHandle Tryz.prog 94 = .pointer (some ⟨4, 94, none⟩) := by kernel_rfl
  rw [hh] at e5
  unfold Hd
  simpa using World.var?_cell Tryz.gEt e5 0
set_option maxRecDepth 100000 in
theorem of_laid2 {W : World} (h : laidMetH Tryz.prog laid2 W) : Env W := by
  have h' : laidMet Tryz.prog [("foyer/root.places", Rows.laid_foyer_root_places), ("math/bits.deBruijn64tab", Rows.laid_math_bits_deBruijn64tab)] W ∧ handlesMet Tryz.prog [("errors.errorType", Rows.laid_errors_errorType)] W := h
  obtain ⟨⟨ps, ⟨g1, t1, cs1, f1, p1, q1, a1, a2, a3, a4, ⟨g2, t2, cs2, f2, p2, q2, b1, b2, b3, b4, _, _⟩, _⟩, _, _⟩, hh⟩ := h'
  exact ⟨tab_of b1 b2 b3 b4, pl_of a1 a2 a3 a4, hd_of hh⟩
theorem five {W : World} (h : Hd W) : 4 ≤ W.heap.size := h.lt
/-- A world that meets it: the settled one, the variables' cells laid. -/
noncomputable def laidWorld (os : Os) : World :=
  let w0 := World.holding Tryz.prog os ⟨#[], #[], []⟩
  let on (k : Nat) (cs : Array Value) (h : Array Obj) : Array Obj := h.modify k fun
      | .cells _ t frozen => .cells cs t frozen
      | o => o
  { w0 with heap := on 0 (R8.placesL.map fun n => Value.int .i64 n).toArray (on 2 (Lib.deBruijn64tab.map fun n => Value.int .u8 (n : Nat)).toArray (on 3 #[.iface 250 (.agg #[.pointer (some ⟨4, 94, none⟩)])] w0.heap)) }
set_option maxRecDepth 100000 in
theorem laidWorld_met2 (os : Os) (args : Array Value) : laidMetH Tryz.prog laid2 ((laidWorld os).forCall (fun _ _ => 0) ⟨#[], args, []⟩).memory :=
  laidMetH_of_parts3 (fuel := 8) (laidMet_of_run' 8 (by kernel_rfl) (by kernel_rfl)) (by kernel_rfl) (by kernel_rfl)
theorem laidOut : laidOutB Tryz.prog = true := by kernel_rfl
/-- What the arguments read as stays, where nothing that was there has turned. -/
theorem all_stays {H : Type} {enc : TypeId × Value → H} {W W' : World} (hb : Below W.heap.size W W') (ts : List TypeId) : ∀ (vs : List Value) (ds : List (DataW H)) (ps : List MemPlace),
    (∀ t ∈ ts, Tryz.prog.readableRec t = true ∧ t < Tryz.prog.types.size) → DataW.TrodAll enc Tryz.prog W 0 (fun _ => true) true ts vs ds ps → (∀ x ∈ ps, x.block < W.heap.size) →
    DataW.TrodAll enc Tryz.prog W' 0 (fun b => decide (b < W.heap.size)) true ts vs ds ps := by
  induction ts with
  | nil =>
    intro vs ds ps _ h _
    obtain ⟨rfl, rfl, rfl⟩ := trodAll_nil h
    exact trodAll_mk0
  | cons t ts ih =>
    intro vs ds ps ht h hlt
    obtain ⟨v, vs', d, ds', p, q, rfl, rfl, rfl, h1, h2⟩ := trodAll_cons h
    have h3 := ht t (List.mem_cons_self ..)
    exact trodAll_cons_mk (Below.trod laidOut h3.1 h3.2 h1 hb (fun x hx => hlt x (List.mem_append_left _ hx))) (ih vs' ds' q (fun t' ht' => ht t' (List.mem_cons_of_mem _ ht')) h2 (fun x hx => hlt x (List.mem_append_right _ hx)))
theorem nat_of_u8 (n : Int) (h : (Lit.int .u8 n).wf = true) : ∃ c : UInt8, n = (c.toNat : Nat) := by
  have h1 : (decide (0 ≤ n) && decide (n ≤ 255)) = true := h
  simp only [Bool.and_eq_true, decide_eq_true_eq] at h1
  refine ⟨UInt8.ofNat n.toNat, ?_⟩
  simp; omega
theorem u16_wf (z : Int) (h : (Lit.int .u16 z).wf = true) : ∃ a : Nat, z = a ∧ a < 65536 := by
  have h1 : (decide (0 ≤ z) && decide (z ≤ 65535)) = true := h
  simp only [Bool.and_eq_true, decide_eq_true_eq] at h1
  exact ⟨z.toNat, by omega, by omega⟩
set_option maxRecDepth 100000 in
theorem nat_of_u16 (n : Int) (h : (Lit.int .u16 n).wf = true) : ∃ c : UInt16, n = (c.toNat : Nat) := by
  have h1 : (decide (0 ≤ n) && decide (n ≤ 65535)) = true := h
  simp only [Bool.and_eq_true, decide_eq_true_eq] at h1
  refine ⟨UInt16.ofNat n.toNat, ?_⟩
  simp; omega
set_option maxRecDepth 100000 in
theorem open_wx {H : Type} {enc : TypeId × Value → H} {W : World} {base : Nat} {sp : Nat → Bool} {n : Nat} {cs : List Value} {x : DataW H × List MemPlace} (h : DataW.trod enc Tryz.prog W base sp true n 32 cs = some x) :
    ∃ f : Wx, cs = (wxV f).toList := by
  obtain ⟨xs, k, _, _, hl, hxl, hf⟩ := DataW.trod_struct Tryz.underlying32 h
  have c3 : Tryz.prog.cellsOf 32 = 3 := by kernel_rfl
  have d1 : Tryz.prog.cellsOf 5 = 1 := by kernel_rfl
  have d2 : Tryz.prog.cellsOf 23 = 1 := by kernel_rfl
  rw [c3] at hl
  match cs, hl with
  | [v0, v1, v2], _ =>
    have f0 := hf 0 _ rfl
    have f1 := hf 1 _ rfl
    have f2 := hf 2 _ rfl
    have l3 : xs.length = 3 := hxl
    match xs, l3 with
    | [y0, y1, y2], _ =>
      have f0' : DataW.trod enc Tryz.prog W base sp true k 5 (([v0, v1, v2].drop 0).take (Tryz.prog.cellsOf 5)) = some y0 := f0
      have f1' : DataW.trod enc Tryz.prog W base sp true k 5 (([v0, v1, v2].drop 1).take (Tryz.prog.cellsOf 5)) = some y1 := f1
      have f2' : DataW.trod enc Tryz.prog W base sp true k 23 (([v0, v1, v2].drop 2).take (Tryz.prog.cellsOf 23)) = some y2 := f2
      rw [d1] at f0' f1'
      rw [d2] at f2'
      obtain ⟨a0, e0, _, w0⟩ := DataW.trod_int Tryz.underlying5 f0'
      obtain ⟨a1, e1, _, w1⟩ := DataW.trod_int Tryz.underlying5 f1'
      obtain ⟨a2, e2, _, w2⟩ := DataW.trod_int Tryz.underlying23 f2'
      obtain ⟨b0, rfl⟩ := nat_of_u8 a0 w0
      obtain ⟨b1, rfl⟩ := nat_of_u8 a1 w1
      obtain ⟨b2, rfl⟩ := nat_of_u16 a2 w2
      have g0 : v0 = _ := (List.cons.inj e0).1
      subst g0
      have g1 : v1 = _ := (List.cons.inj e1).1
      subst g1
      have g2 : v2 = _ := (List.cons.inj e2).1
      subst g2
      exact ⟨⟨b0, b1, b2⟩, rfl⟩
set_option maxRecDepth 100000 in
/-- Acts that came in. -/
theorem open_wxs {H : Type} {enc : TypeId × Value → H} {W : World} {base : Nat} {v : Value} {d : DataW H} {ps : List MemPlace} (hval : Value.okWide Tryz.prog W .any base 22 v) (h : DataW.Trod enc Tryz.prog W 0 (fun _ => true) true 22 v d ps) :
    ∃ l : List Wx, Wxs W v l := by
  obtain ⟨a0, len0, cap0, rfl⟩ := okWide_slice Tryz.underlying22 hval
  obtain ⟨fuel, hf0⟩ := h
  rcases Go.Deep.open_slice Tryz.underlying22 hf0 with ⟨hcs, _⟩ | ⟨a, len, cap, m, k, D, Pl, hcs, _, hl, hm, hmm, _, hi⟩
  · simp [Value.cells] at hcs
    obtain ⟨rfl, rfl, rfl⟩ := hcs
    exact ⟨[], Sl.nil 3 _⟩
  · simp [Value.cells] at hcs
    obtain ⟨rfl, rfl, rfl⟩ := hcs
    have hlm : len0 ≤ m := by rw [hmm]; split <;> omega
    have c3 : Tryz.prog.cellsOf 32 = 3 := by kernel_rfl
    have key : ∀ i : Nat, ∃ f : Wx, i < len0 → ∀ k u, (wxV f).toList[k]? = some u → W.cell? (a.add (i * 3 + k)) = some u := by
      intro i
      by_cases h : i < len0
      · obtain ⟨cs', h1, h2⟩ := hi i (by omega)
        rw [c3] at h1
        obtain ⟨_, _, hat⟩ := World.cells?_some h1
        obtain ⟨f, rfl⟩ := open_wx h2
        refine ⟨f, fun _ => fun k u hu => ?_⟩
        have hk : k < 3 := (List.getElem?_eq_some_iff.1 hu).1
        rw [← add_add, hat k hk, hu]
      · exact ⟨⟨0, 0, 0⟩, fun h' => absurd h' h⟩
    obtain ⟨f, hf2⟩ := Classical.skolem.1 key
    have hlen : ((List.range len0).map f).length = len0 := by simp
    refine ⟨(List.range len0).map f, ⟨some a, cap0, by rw [hlen], by rw [hlen]; exact hl, wxsC_length _, (fun e => by cases e), ?_⟩⟩
    intro b e j u hj
    cases e
    have hj2 := (List.getElem?_eq_some_iff.1 hj).1
    rw [wxsC_length, hlen] at hj2
    have hj4 : j / 3 < len0 := by omega
    have hget : ((List.range len0).map f)[j / 3]'(by rw [hlen]; exact hj4) = f (j / 3) := by simp
    have hat := wxsC_at ((List.range len0).map f) (j / 3) (by rw [hlen]; exact hj4) (j % 3) (by omega)
    rw [hget] at hat
    have hj5 : j / 3 * 3 + j % 3 = j := by omega
    rw [hj5, hj] at hat
    have := hf2 _ hj4 (j % 3) u hat.symm
    rw [hj5] at this
    exact this
end Go.Proofs.YtliiooldlooagaaGreatDoor.O12
