/-
  How a node is cut, and joined, by the program's own calls (size, best, cut, join), over this seat's translation; conditions: the node lies as it is told, and has at most a million of each.
-/
import Derived.Test.YthhimhjegodklaaGreatNi
import Derived.Deep.MidRow
import Derived.Deep.WholeRow
namespace Go.Proofs.YthhimhjegodklaaGreat.N11
set_option linter.unusedSimpArgs false
set_option linter.unusedVariables false
open Go.RowKit
/-- A node is stored, whole, where one stands. -/
theorem st_nodeW {w : World} {b : Nat} {t : TypeId} {o0 o1 o2 o3 : Value} (h : Blk w b t #[o0, o1, o2, o3]) (v0 v1 v2 v3 : Value) : Blk (w.setCells b 0 [v0, v1, v2, v3]) b t #[v0, v1, v2, v3] ∧ w.grownBy (w.setCells b 0 [v0, v1, v2, v3]) (some b) := by
  refine ⟨(((h.set 0 v0).set 1 v1).set 2 v2).set 3 v3, ?_⟩
  exact gb_trans (gb_trans (gb_trans (gb_set _ _ _ _ _) (gb_set _ _ _ _ _)) (gb_set _ _ _ _ _)) (gb_set _ _ _ _ _)
theorem there4 {w : World} {b : Nat} {t : TypeId} {o0 o1 o2 o3 : Value} (h : Blk w b t #[o0, o1, o2, o3]) : w.there b 0 4 := by
  intro j hj
  rw [Nat.zero_add]
  refine ⟨?_, h.free j⟩
  match j, hj with
  | 0, _ => rw [h.cell 0 rfl]; rfl
  | 1, _ => rw [h.cell 1 rfl]; rfl
  | 2, _ => rw [h.cell 2 rfl]; rfl
  | 3, _ => rw [h.cell 3 rfl]; rfl
theorem st_nodeO {op : Oper} {a : Act} {w : World} {K : Act → World → Prop} {Q : Exit → Act → World → Prop} (x y : Operand) (ho : op.op = .store 26 x y) (b : Nat) (t : TypeId) (lf : Bool) (a1 a2 a3 : Option Addr) (n1 n2 n3 c1 c2 c3 : Nat)
    (hx : a.eval x = .pointer (some ⟨b, 0, none⟩)) (hy : a.eval y = .agg #[.bool lf, .slice a1 n1 c1, .slice a2 n2 c2, .slice a3 n3 c3]) (o0 o1 o2 o3 : Value) (hb : Blk w b t #[o0, o1, o2, o3])
    (h : ∀ w', Blk w' b t #[.bool lf, .slice a1 n1 c1, .slice a2 n2 c2, .slice a3 n3 c3] → w.grownBy w' (some b) → K (a.put op.dst undef) w') : op.wp Tryz.prog a w K Q := by
  obtain ⟨h1, h2⟩ := st_nodeW hb (.bool lf) (.slice a1 n1 c1) (.slice a2 n2 c2) (.slice a3 n3 c3)
  exact wp_store_mid 26 x y ho b 0 _ hx hy (there4 hb) (by kernel_rfl) (by kernel_rfl) (h _ h1 h2)
theorem st_node {P : Program} {ops : Array Oper} {rest : List Oper} {a : Act} {w : World} {Q : Exit → Act → World → Prop} {x y : Operand} {ty : TypeId} {p : String} {af : Array Edge} (hP : P = Tryz.prog) (b : Nat) (t : TypeId) (lf : Bool) (a1 a2 a3 : Option Addr) (n1 n2 n3 c1 c2 c3 : Nat)
    (hx : a.eval x = .pointer (some ⟨b, 0, none⟩)) (hy : a.eval y = .agg #[.bool lf, .slice a1 n1 c1, .slice a2 n2 c2, .slice a3 n3 c3]) (o0 o1 o2 o3 : Value) (hb : Blk w b t #[o0, o1, o2, o3])
    (h : ∀ w', Blk w' b t #[.bool lf, .slice a1 n1 c1, .slice a2 n2 c2, .slice a3 n3 c3] → w.grownBy w' (some b) → wpList P ops Q rest a w') :
    wpList P ops Q (({ dst := none, op := .store 26 x y, type := ty, pos := p, after := af, guard := none } : Oper) :: rest) a w := by
  subst hP
  exact wpList_plain rfl fun _ hK => st_nodeO x y rfl b t lf a1 a2 a3 n1 n2 n3 c1 c2 c3 hx hy o0 o1 o2 o3 hb (fun w' h1 h2 => hK _ _ (h w' h1 h2))
theorem new1 (w : World) (t1 : TypeId) (v1 : Array Value) : ∃ w0, w0 = w.alloc (.cells v1 t1) ∧ Blk w0 w.heap.size t1 v1 ∧ w.grownBy w0 none ∧ w0.heap.size = w.heap.size + 1 :=
  ⟨_, rfl, Blk.mk _ _ _, gb_alloc _ _ _, by simp⟩
theorem new2 (w : World) (t1 : TypeId) (v1 : Array Value) (t2 : TypeId) (v2 : Array Value) : ∃ w0, w0 = (w.alloc (.cells v1 t1)).alloc (.cells v2 t2) ∧ Blk w0 w.heap.size t1 v1 ∧ Blk w0 (w.heap.size + 1) t2 v2 ∧ w.grownBy w0 none ∧ w0.heap.size = w.heap.size + 2 := by
  obtain ⟨wa, ha, b1, g1, s1⟩ := new1 w t1 v1
  obtain ⟨wb, hb, b2, g2, s2⟩ := new1 wa t2 v2
  rw [s1] at b2
  exact ⟨wb, by rw [hb, ha], b1.keep0 g2, b2, gb_trans g1 g2, by omega⟩
theorem new3 (w : World) (t1 : TypeId) (v1 : Array Value) (t2 : TypeId) (v2 : Array Value) (t3 : TypeId) (v3 : Array Value) : ∃ w0, w0 = ((w.alloc (.cells v1 t1)).alloc (.cells v2 t2)).alloc (.cells v3 t3) ∧ Blk w0 w.heap.size t1 v1 ∧ Blk w0 (w.heap.size + 1) t2 v2 ∧ Blk w0 (w.heap.size + 1 + 1) t3 v3 ∧ w.grownBy w0 none ∧ w0.heap.size = w.heap.size + 3 := by
  obtain ⟨wa, ha, b1, b2, g1, s1⟩ := new2 w t1 v1 t2 v2
  obtain ⟨wb, hb, b3, g2, s2⟩ := new1 wa t3 v3
  rw [s1] at b3
  exact ⟨wb, by rw [hb, ha], b1.keep0 g2, b2.keep0 g2, b3, gb_trans g1 g2, by omega⟩
def plainV : Value → Bool
  | .string _ => true
  | .int _ _ => true
  | _ => false
/-- A block without texts and numbers. -/
def Nbl (w : World) (b : Nat) : Prop := ∃ (t : TypeId) (vs : Array Value), Blk w b t vs ∧ ∀ u ∈ vs.toList, plainV u = false
theorem Nbl.node {w : World} {b : Nat} {t : TypeId} {lf : Bool} {a1 a2 a3 : Option Addr} {n1 n2 n3 c1 c2 c3 : Nat} (h : Blk w b t #[.bool lf, .slice a1 n1 c1, .slice a2 n2 c2, .slice a3 n3 c3]) : Nbl w b :=
  ⟨t, _, h, fun u hu => by simp at hu; rcases hu with rfl | rfl | rfl | rfl <;> rfl⟩
theorem _root_.Go.Proofs.YthhimhjegodklaaGreat.Sl.keepN {k : Nat} {w w' : World} {v : Value} {n b : Nat} {cs : List Value} (h : Sl k w v n cs) (nb : Nbl w b) (g : w.grownBy w' (some b)) (hp : ∀ u ∈ cs, plainV u = true) : Sl k w' v n cs := by
  obtain ⟨t, vs, hb, hq⟩ := nb
  obtain ⟨ao, cap, h1, h2, h3, h4, h5⟩ := h
  refine ⟨ao, cap, h1, h2, h3, h4, fun a e j u hj => ?_⟩
  have hc := h5 a e j u hj
  refine g.cell hc (fun he => ?_)
  have hbk : (a.add j).block = b := Option.some.inj he
  unfold Blk at hb
  have hv : vs[(a.add j).off]? = some u := by
    simp only [World.cell?, hbk, hb] at hc
    split at hc
    · cases hc
    · exact hc
  have h6 := hq u (by rw [Array.mem_toList_iff]; exact Array.mem_of_getElem? hv)
  rw [hp u (List.mem_of_getElem? hj)] at h6
  cases h6
theorem plain_ceC (l : List Ce) : ∀ u ∈ ceC l, plainV u = true := by
  intro u hu
  obtain ⟨c, _, hc⟩ := List.mem_flatMap.1 hu
  simp [Ce.row] at hc
  rcases hc with rfl | rfl | rfl | rfl <;> rfl
theorem plain_strsC (l : List ByteArray) : ∀ u ∈ strsC l, plainV u = true := by
  intro u hu; obtain ⟨_, _, rfl⟩ := List.mem_map.1 hu; rfl
theorem plain_inC (l : List Int) : ∀ u ∈ inC l, plainV u = true := by
  intro u hu; obtain ⟨_, _, rfl⟩ := List.mem_map.1 hu; rfl
theorem Ces.keepN {w w' : World} {b : Nat} {v : Value} {l : List Ce} (h : Ces w v l) (nb : Nbl w b) (g : w.grownBy w' (some b)) : Ces w' v l := Sl.keepN h nb g (plain_ceC l)
theorem stsKeepN {w w' : World} {b : Nat} {v : Value} {l : List ByteArray} (h : Sts w v l) (nb : Nbl w b) (g : w.grownBy w' (some b)) : Sts w' v l := Sl.keepN h nb g (plain_strsC l)
theorem Ins.keepN {w w' : World} {b : Nat} {v : Value} {l : List Int} (h : Ins w v l) (nb : Nbl w b) (g : w.grownBy w' (some b)) : Ins w' v l := Sl.keepN h nb g (plain_inC l)
theorem NdV.keepN {w w' : World} {b : Nat} {v : Value} {n : Nd} (h : NdV w v n) (nb : Nbl w b) (g : w.grownBy w' (some b)) : NdV w' v n := by
  obtain ⟨a, b, c, rfl, h1, h2, h3⟩ := h
  exact ⟨a, b, c, rfl, h1.keepN nb g, stsKeepN h2 nb g, h3.keepN nb g⟩
/-- Results that lie in cells. -/
theorem loadN {w : World} {b : Nat} {o0 o1 o2 o3 : Value} (h : Blk w b 26 #[o0, o1, o2, o3]) : (loadVar 26 ⟨b, 0, none⟩).run Tryz.prog w = .ok (.agg #[o0, o1, o2, o3]) w :=
  run_loadVar_row (P := Tryz.prog) w b 26 26 #[o0, o1, o2, o3] (0, 0) _ h Tryz.underlying26 rfl (by show _ = some 4; kernel_rfl)
theorem results_c {fn : Func} {p : Tmp} (h : fn.results = #[.cell p 26]) (tmps : Array Value) (w : World) (b : Nat) (o0 o1 o2 o3 : Value) (hp : tmps.getD p undef = .pointer (some ⟨b, 0, none⟩)) (hb : Blk w b 26 #[o0, o1, o2, o3]) :
    (results fn tmps).run Tryz.prog w = .ok (.agg #[o0, o1, o2, o3]) w := by
  have hp' : tmps[p]?.getD undef = .pointer (some ⟨b, 0, none⟩) := by simpa using hp
  simp [results, h, hp', asAddr, loadN hb]
theorem results_cs {fn : Func} {p s : Tmp} (h : fn.results = #[.cell p 26, .tmp s]) (tmps : Array Value) (w : World) (b : Nat) (o0 o1 o2 o3 : Value) (hp : tmps.getD p undef = .pointer (some ⟨b, 0, none⟩)) (hb : Blk w b 26 #[o0, o1, o2, o3]) :
    (results fn tmps).run Tryz.prog w = .ok (.tuple #[.agg #[o0, o1, o2, o3], tmps.getD s undef]) w := by
  have hp' : tmps[p]?.getD undef = .pointer (some ⟨b, 0, none⟩) := by simpa using hp
  simp [results, h, hp', asAddr, loadN hb]
theorem results_ccs {fn : Func} {p q s : Tmp} (h : fn.results = #[.cell p 26, .cell q 26, .tmp s]) (tmps : Array Value) (w : World) (b c : Nat) (o0 o1 o2 o3 r0 r1 r2 r3 : Value) (hp : tmps.getD p undef = .pointer (some ⟨b, 0, none⟩)) (hb : Blk w b 26 #[o0, o1, o2, o3])
    (hq : tmps.getD q undef = .pointer (some ⟨c, 0, none⟩)) (hc : Blk w c 26 #[r0, r1, r2, r3]) : (results fn tmps).run Tryz.prog w = .ok (.tuple #[.agg #[o0, o1, o2, o3], .agg #[r0, r1, r2, r3], tmps.getD s undef]) w := by
  have hp' : tmps[p]?.getD undef = .pointer (some ⟨b, 0, none⟩) := by simpa using hp
  have hq' : tmps[q]?.getD undef = .pointer (some ⟨c, 0, none⟩) := by simpa using hq
  simp [results, h, hp', hq', asAddr, loadN hb, loadN hc]
theorem results_ccss {fn : Func} {p q s u : Tmp} (h : fn.results = #[.cell p 26, .cell q 26, .tmp s, .tmp u]) (tmps : Array Value) (w : World) (b c : Nat) (o0 o1 o2 o3 r0 r1 r2 r3 : Value) (hp : tmps.getD p undef = .pointer (some ⟨b, 0, none⟩)) (hb : Blk w b 26 #[o0, o1, o2, o3])
    (hq : tmps.getD q undef = .pointer (some ⟨c, 0, none⟩)) (hc : Blk w c 26 #[r0, r1, r2, r3]) : (results fn tmps).run Tryz.prog w = .ok (.tuple #[.agg #[o0, o1, o2, o3], .agg #[r0, r1, r2, r3], tmps.getD s undef, tmps.getD u undef]) w := by
  have hp' : tmps[p]?.getD undef = .pointer (some ⟨b, 0, none⟩) := by simpa using hp
  have hq' : tmps[q]?.getD undef = .pointer (some ⟨c, 0, none⟩) := by simpa using hq
  simp [results, h, hp', hq', asAddr, loadN hb, loadN hc]
theorem part_at_C (v : Value) (l : List Ce) (za zb : Int) (a b : Nat) (ea : za = a) (eb : zb = b) (w : World) (hv : Ces w v l) (hl : l.length ≤ 1000000) (hab : a ≤ b) (hbn : b ≤ l.length) :
    Calls Tryz.prog 98 #[v, .int .i64 za, .int .i64 zb] w (GotC ((l.drop a).take (b - a)) w) := by subst ea; subst eb; exact part_C v l a b w hv hl hab hbn
theorem part_at_S (v : Value) (l : List ByteArray) (za zb : Int) (a b : Nat) (ea : za = a) (eb : zb = b) (w : World) (hv : Sts w v l) (hl : l.length ≤ 1000000) (hab : a ≤ b) (hbn : b ≤ l.length) :
    Calls Tryz.prog 121 #[v, .int .i64 za, .int .i64 zb] w (GotS ((l.drop a).take (b - a)) w) := by subst ea; subst eb; exact part_S v l a b w hv hl hab hbn
theorem part_at_I (v : Value) (l : List Int) (za zb : Int) (a b : Nat) (ea : za = a) (eb : zb = b) (w : World) (hv : Ins w v l) (hl : l.length ≤ 1000000) (hab : a ≤ b) (hbn : b ≤ l.length) :
    Calls Tryz.prog 122 #[v, .int .i64 za, .int .i64 zb] w (GotI ((l.drop a).take (b - a)) w) := by subst ea; subst eb; exact part_I v l a b w hv hl hab hbn
set_option maxRecDepth 100000 in
set_option maxHeartbeats 1000000 in
theorem sizeL_any (lf : Bool) (a b c : Value) (l : List Ce) (w : World) (ha : Ces w a l) (hl : l.length ≤ 1000000) (hs : sumF cellSz l ≤ 1000000000) (hz : ∀ x ∈ l, x.key.size ≤ 1000000000000000000 ∧ x.val.size ≤ 1000000000000000000) :
    Calls Tryz.prog 95 #[.agg #[.bool lf, a, b, c]] w fun e w' => e = .returned (.int .i64 ((2 + sumF cellSz l : Nat) : Int)) ∧ w.grownBy w' none := by
  have HT : Hid (∀ W, w.grownBy W none → Calls Tryz.prog 107 #[a, .func (.func 97) #[] #[]] W fun e w' => e = .returned (.int .i64 (sumF cellSz l : Nat)) ∧ W.grownBy w' none) :=
    Lib.hid (fun W g => total_C _ _ W (ha.keep0 g) (by omega) (by omega) hz)
  clear hz ha
  generalize sumF cellSz l = sm at HT hs ⊢
  go_enter Tryz.func95, Tryz.ntmps95
  go_wp2_with (go_at_call 107; (with_reducible refine (HT.out _ (gb_alloc _ _ _)).mono ?_); rintro e w1 ⟨rfl, g1⟩)
  go_ret
  exact ⟨ret_i (by omega), gb_trans (gb_alloc _ _ _) g1⟩
set_option maxRecDepth 100000 in
set_option maxHeartbeats 1000000 in
theorem bestL_any (lf : Bool) (a b c : Value) (l : List Ce) (w : World) (ha : Ces w a l) (hl : l.length ≤ 1000000) (hs : sumF cellSz l ≤ 1000000000) (hz : ∀ x ∈ l, x.key.size ≤ 1000000000000000000 ∧ x.val.size ≤ 1000000000000000000) :
    Calls Tryz.prog 90 #[.agg #[.bool lf, a, b, c]] w (BestGot cellSz 0 l w) := by
  have HT : Hid (∀ W, w.grownBy W none → Calls Tryz.prog 96 #[a, .int .i64 0, .func (.func 97) #[] #[]] W (BestGot cellSz 0 l W)) :=
    Lib.hid (fun W g => bestCut_C _ _ W (ha.keep0 g) (by omega) (by omega) hz)
  clear hz ha
  go_enter Tryz.func90, Tryz.ntmps90
  go_wp2_with (go_at_call 96; (with_reducible refine (HT.out _ (gb_alloc _ _ _)).mono ?_); rintro e w1 ⟨r, rfl, hr, g1⟩)
  go_ret
  exact ⟨r, rfl, hr, gb_trans (gb_alloc _ _ _) g1⟩
set_option maxRecDepth 100000 in
set_option maxHeartbeats 1000000 in
theorem sizeI_any (lf : Bool) (a b c : Value) (l : List ByteArray) (w : World) (ha : Sts w a l) (hl : l.length ≤ 1000000) (hs : sumF keySz l ≤ 1000000000) (hz : ∀ x ∈ l, x.size ≤ 1000000000000000000) :
    Calls Tryz.prog 118 #[.agg #[.bool lf, b, a, c]] w fun e w' => e = .returned (.int .i64 ((4 + sumF keySz l : Nat) : Int)) ∧ w.grownBy w' none := by
  have HT : Hid (∀ W, w.grownBy W none → Calls Tryz.prog 129 #[a, .func (.func 120) #[] #[]] W fun e w' => e = .returned (.int .i64 (sumF keySz l : Nat)) ∧ W.grownBy w' none) :=
    Lib.hid (fun W g => total_S _ _ W (stsKeep0 ha g) (by omega) (by omega) hz)
  clear hz ha
  generalize sumF keySz l = sm at HT hs ⊢
  go_enter Tryz.func118, Tryz.ntmps118
  go_wp2_with (go_at_call 129; (with_reducible refine (HT.out _ (gb_alloc _ _ _)).mono ?_); rintro e w1 ⟨rfl, g1⟩)
  go_ret
  exact ⟨ret_i (by omega), gb_trans (gb_alloc _ _ _) g1⟩
set_option maxRecDepth 100000 in
set_option maxHeartbeats 1000000 in
theorem bestI_any (lf : Bool) (a b c : Value) (l : List ByteArray) (w : World) (ha : Sts w a l) (hl : l.length ≤ 1000000) (hn : 1 ≤ l.length) (hs : sumF keySz l ≤ 1000000000) (hz : ∀ x ∈ l, x.size ≤ 1000000000000000000) :
    Calls Tryz.prog 113 #[.agg #[.bool lf, b, a, c]] w (BestGot keySz 1 l w) := by
  have HT : Hid (∀ W, w.grownBy W none → Calls Tryz.prog 119 #[a, .int .i64 1, .func (.func 120) #[] #[]] W (BestGot keySz 1 l W)) :=
    Lib.hid (fun W g => bestCut_S _ _ W (stsKeep0 ha g) (by omega) hn (by omega) hz)
  clear hz ha
  go_enter Tryz.func113, Tryz.ntmps113
  go_wp2_with (go_at_call 119; (with_reducible refine (HT.out _ (gb_alloc _ _ _)).mono ?_); rintro e w1 ⟨r, rfl, hr, g1⟩)
  go_ret
  exact ⟨r, rfl, hr, gb_trans (gb_alloc _ _ _) g1⟩
/-- Two nodes, and a key. -/
def CutGot (A B : Nd) (k : ByteArray) (w : World) (e : Ending) (w' : World) : Prop := ∃ va vb, e = .returned (.tuple #[va, vb, .string k]) ∧ NdV w' va A ∧ NdV w' vb B ∧ w.grownBy w' none
def NodeGot (A : Nd) (w : World) (e : Ending) (w' : World) : Prop := ∃ v, e = .returned v ∧ NdV w' v A ∧ w.grownBy w' none
set_option maxRecDepth 100000 in
set_option maxHeartbeats 1000000 in
theorem cutL_any (lf : Bool) (a b c : Value) (cs : List Ce) (i : Nat) (x : Ce) (w : World) (ha : Ces w a cs) (hl : cs.length ≤ 1000000) (hx : cs[i]? = some x) :
    Calls Tryz.prog 91 #[.agg #[.bool lf, a, b, c], .int .i64 (i : Nat)] w (CutGot ⟨true, cs.take i, [], []⟩ ⟨true, cs.drop i, [], []⟩ x.key w) := by
  have hi := (List.getElem?_eq_some_iff.1 hx).1
  have hat : ∃ ad ca, a = .slice (some ad) cs.length ca ∧ CAt w ad i x := by
    obtain ⟨ao, ca, rfl, h2, h3, h4, h5⟩ := ha
    cases ao with
    | none => have := (h4 rfl).1; omega
    | some ad => exact ⟨ad, ca, rfl, cat_of (fun j u h => h5 ad rfl j u h) hx⟩
  obtain ⟨ad, ca, rfl, hat⟩ := hat
  have HP1 : Hid (∀ W, w.grownBy W none → Calls Tryz.prog 98 #[.slice (some ad) cs.length ca, .int .i64 0, .int .i64 (i : Nat)] W (GotC (cs.take i) W)) :=
    Lib.hid (fun W g => by have := part_at_C _ cs 0 i 0 i rfl rfl W (ha.keep0 g) hl (by omega) (by omega); simpa using this)
  have HP2 : Hid (∀ W, w.grownBy W none → Calls Tryz.prog 98 #[.slice (some ad) cs.length ca, .int .i64 (i : Nat), .int .i64 (cs.length : Nat)] W (GotC (cs.drop i) W)) :=
    Lib.hid (fun W g => by have := part_at_C _ cs i cs.length i cs.length rfl rfl W (ha.keep0 g) hl (by omega) (by omega); rwa [List.take_of_length_le (by rw [List.length_drop]; omega)] at this)
  have HAT := Lib.hid hat
  clear ha hat hx
  have hi' : (i : Int) < (cs.length : Int) := by omega
  obtain ⟨w0, hw0, kb, k1, k2, g0, hz⟩ := new3 w 69 #[.bool lf, .slice (some ad) cs.length ca, b, c] 26 #[.bool false, .slice none 0 0, .slice none 0 0, .slice none 0 0] 26 #[.bool false, .slice none 0 0, .slice none 0 0, .slice none 0 0]
  have HW := Lib.hid hw0
  clear hw0
  go_enter Tryz.func91, Tryz.ntmps91
  have cb := kb.cell 1 rfl
  go_wp2_with (first
    | (go_at_call 98; first
      | ((with_reducible refine (HP1.out _ (by rw [← HW.out]; exact g0)).mono ?_); rw [← HW.out]; rintro e w1 ⟨v1, rfl, h1, g1⟩; obtain ⟨a1, e1, rfl⟩ := Sl.shape h1; rw [List.length_take] at h1; replace kb := kb.keep0 g1; replace k1 := k1.keep0 g1; replace k2 := k2.keep0 g1; replace g0 := gb_trans g0 g1; clear cb; have H1 := Lib.hid h1; clear g1 h1)
      | ((with_reducible refine (HP2.out _ g0).mono ?_); rintro e w3 ⟨v3, rfl, h3, g3⟩; obtain ⟨a3, e3, rfl⟩ := Sl.shape h3; rw [List.length_drop] at h3; replace kb := kb.keep0 g3; replace k1 := k1.keep0 g3; replace k2 := k2.keep0 g3; replace g0 := gb_trans g0 g3; replace H1 := Lib.hid (H1.out.keep0 g3); clear cb; have H3 := Lib.hid h3; clear g3 h3))
    | ((with_reducible refine st_node rfl (w.heap.size + 1) 26 true ?_ none none ?_ 0 0 ?_ 0 0 ?_ ?_ _ _ _ _ k1 ?_); rotate_left 3; (· rfl); (· rfl); intro w2 n1 g2; replace H1 := Lib.hid (H1.out.keepN (Nbl.node k1) g2); clear k1; replace kb := kb.keep g2 (ne_some (by omega)); replace k2 := k2.keep g2 (ne_some (by omega)); replace g0 := gb_step g0 g2 (by omega); have k1 := n1; clear n1 g2; have cb := kb.cell 1 rfl)
    | ((with_reducible refine st_node rfl (w.heap.size + 1 + 1) 26 true ?_ none none ?_ 0 0 ?_ 0 0 ?_ ?_ _ _ _ _ k2 ?_); rotate_left 3; (· rfl); (· rfl); intro w4 n2 g4; replace H1 := Lib.hid (H1.out.keepN (Nbl.node k2) g4); replace H3 := Lib.hid (H3.out.keepN (Nbl.node k2) g4); clear k2; replace kb := kb.keep g4 (ne_some (by omega)); replace k1 := k1.keep g4 (ne_some (by omega)); replace g0 := gb_step g0 g4 (by omega); have k2 := n2; clear n2 g4))
  refine wp_region_noPanic ?_
  refine wp_region_held_drew (S := fun w' => w.grownBy w' none ∧ Blk w' w.heap.size 69 #[.bool lf, .slice (some ad) cs.length ca, b, c] ∧ Blk w' (w.heap.size + 1) 26 #[.bool true, .slice a1 (min i cs.length) e1, .slice none 0 0, .slice none 0 0] ∧ Blk w' (w.heap.size + 1 + 1) 26 #[.bool true, .slice a3 (cs.length - i) e3, .slice none 0 0, .slice none 0 0] ∧ Ces w' (.slice a1 (min i cs.length) e1) (cs.take i) ∧ Ces w' (.slice a3 (cs.length - i) e3) (cs.drop i)) (by kernel_rfl) ⟨gb_trans g0 (gb_drew _ _), kb.keep0 (gb_drew _ _), k1.keep0 (gb_drew _ _), k2.keep0 (gb_drew _ _), H1.out.keep0 (gb_drew _ _), H3.out.keep0 (gb_drew _ _)⟩ (fun hHeld => ?_)
  refine wpAnyH_take (i := 0) (v := ?_) (List.getElem?_toArray.trans rfl) (by kernel_rfl) (by kernel_rfl) (by kernel_rfl) (fun _ _ _ h => h) (Or.inl ⟨by rfl, ?_⟩) hHeld ?_
  rotate_left
  · intro w' hSw; obtain ⟨hg, b0, b1, b2, _, _⟩ := hSw; have d0 := b0.cell 1 rfl; have p0 := b1.cell 0 rfl; have p1 := b1.cell 1 rfl; have p2 := b1.cell 2 rfl; have p3 := b1.cell 3 rfl; have q0 := b2.cell 0 rfl; have q1 := b2.cell 1 rfl; have q2 := b2.cell 2 rfl; have q3 := b2.cell 3 rfl; have x0 := hg.cell HAT.out.1 (by simp); clear b0 b1 b2; go_simp; try with_reducible rfl
  try simp only [Act.put, List.setIfInBounds_toArray, List.set_cons_zero, List.set_cons_succ]
  refine wpAnyH_take (i := 1) (v := ?_) (List.getElem?_toArray.trans rfl) (by kernel_rfl) (by kernel_rfl) (by kernel_rfl) (fun _ _ _ h => h) (Or.inl ⟨by rfl, ?_⟩) hHeld ?_
  rotate_left
  · intro w' hSw; obtain ⟨hg, b0, b1, b2, _, _⟩ := hSw; have d0 := b0.cell 1 rfl; have p0 := b1.cell 0 rfl; have p1 := b1.cell 1 rfl; have p2 := b1.cell 2 rfl; have p3 := b1.cell 3 rfl; have q0 := b2.cell 0 rfl; have q1 := b2.cell 1 rfl; have q2 := b2.cell 2 rfl; have q3 := b2.cell 3 rfl; have x0 := hg.cell HAT.out.1 (by simp); clear b0 b1 b2; go_simp; try with_reducible rfl
  try simp only [Act.put, List.setIfInBounds_toArray, List.set_cons_zero, List.set_cons_succ]
  refine wpAnyH_take (i := 2) (v := ?_) (List.getElem?_toArray.trans rfl) (by kernel_rfl) (by kernel_rfl) (by kernel_rfl) (fun _ _ _ h => h) (Or.inl ⟨by rfl, ?_⟩) hHeld ?_
  rotate_left
  · intro w' hSw; obtain ⟨hg, b0, b1, b2, _, _⟩ := hSw; have d0 := b0.cell 1 rfl; have p0 := b1.cell 0 rfl; have p1 := b1.cell 1 rfl; have p2 := b1.cell 2 rfl; have p3 := b1.cell 3 rfl; have q0 := b2.cell 0 rfl; have q1 := b2.cell 1 rfl; have q2 := b2.cell 2 rfl; have q3 := b2.cell 3 rfl; have x0 := hg.cell HAT.out.1 (by simp); clear b0 b1 b2; go_simp; try with_reducible rfl
  try simp only [Act.put, List.setIfInBounds_toArray, List.set_cons_zero, List.set_cons_succ]
  refine wpAnyH_take (i := 3) (v := ?_) (List.getElem?_toArray.trans rfl) (by kernel_rfl) (by kernel_rfl) (by kernel_rfl) (fun _ _ _ h => h) (Or.inl ⟨by rfl, ?_⟩) hHeld ?_
  rotate_left
  · intro w' hSw; obtain ⟨hg, b0, b1, b2, _, _⟩ := hSw; have d0 := b0.cell 1 rfl; have p0 := b1.cell 0 rfl; have p1 := b1.cell 1 rfl; have p2 := b1.cell 2 rfl; have p3 := b1.cell 3 rfl; have q0 := b2.cell 0 rfl; have q1 := b2.cell 1 rfl; have q2 := b2.cell 2 rfl; have q3 := b2.cell 3 rfl; have x0 := hg.cell HAT.out.1 (by simp); clear b0 b1 b2; go_simp; try with_reducible rfl
  try simp only [Act.put, List.setIfInBounds_toArray, List.set_cons_zero, List.set_cons_succ]
  refine wpAnyH_take (i := 4) (v := ?_) (List.getElem?_toArray.trans rfl) (by kernel_rfl) (by kernel_rfl) (by kernel_rfl) (fun _ _ _ h => h) (Or.inl ⟨by rfl, ?_⟩) hHeld ?_
  rotate_left
  · intro w' hSw; obtain ⟨hg, b0, b1, b2, _, _⟩ := hSw; have d0 := b0.cell 1 rfl; have p0 := b1.cell 0 rfl; have p1 := b1.cell 1 rfl; have p2 := b1.cell 2 rfl; have p3 := b1.cell 3 rfl; have q0 := b2.cell 0 rfl; have q1 := b2.cell 1 rfl; have q2 := b2.cell 2 rfl; have q3 := b2.cell 3 rfl; have x0 := hg.cell HAT.out.1 (by simp); clear b0 b1 b2; go_simp; try with_reducible rfl
  try simp only [Act.put, List.setIfInBounds_toArray, List.set_cons_zero, List.set_cons_succ]
  refine wpAnyH_take (i := 5) (v := ?_) (List.getElem?_toArray.trans rfl) (by kernel_rfl) (by kernel_rfl) (by kernel_rfl) (fun _ _ _ h => h) (Or.inl ⟨by rfl, ?_⟩) hHeld ?_
  rotate_left
  · intro w' hSw; obtain ⟨hg, b0, b1, b2, _, _⟩ := hSw; have d0 := b0.cell 1 rfl; have p0 := b1.cell 0 rfl; have p1 := b1.cell 1 rfl; have p2 := b1.cell 2 rfl; have p3 := b1.cell 3 rfl; have q0 := b2.cell 0 rfl; have q1 := b2.cell 1 rfl; have q2 := b2.cell 2 rfl; have q3 := b2.cell 3 rfl; have x0 := hg.cell HAT.out.1 (by simp); clear b0 b1 b2; go_simp; try with_reducible rfl
  try simp only [Act.put, List.setIfInBounds_toArray, List.set_cons_zero, List.set_cons_succ]
  refine wpAnyH_take (i := 6) (v := ?_) (List.getElem?_toArray.trans rfl) (by kernel_rfl) (by kernel_rfl) (by kernel_rfl) (fun _ _ _ h => h) (Or.inl ⟨by rfl, ?_⟩) hHeld ?_
  rotate_left
  · intro w' hSw; obtain ⟨hg, b0, b1, b2, _, _⟩ := hSw; have d0 := b0.cell 1 rfl; have p0 := b1.cell 0 rfl; have p1 := b1.cell 1 rfl; have p2 := b1.cell 2 rfl; have p3 := b1.cell 3 rfl; have q0 := b2.cell 0 rfl; have q1 := b2.cell 1 rfl; have q2 := b2.cell 2 rfl; have q3 := b2.cell 3 rfl; have x0 := hg.cell HAT.out.1 (by simp); clear b0 b1 b2; go_simp; try with_reducible rfl
  try simp only [Act.put, List.setIfInBounds_toArray, List.set_cons_zero, List.set_cons_succ]
  refine wpAnyH_take (i := 7) (v := ?_) (List.getElem?_toArray.trans rfl) (by kernel_rfl) (by kernel_rfl) (by kernel_rfl) (fun _ _ _ h => h) (Or.inl ⟨by rfl, ?_⟩) hHeld ?_
  rotate_left
  · intro w' hSw; obtain ⟨hg, b0, b1, b2, _, _⟩ := hSw; have d0 := b0.cell 1 rfl; have p0 := b1.cell 0 rfl; have p1 := b1.cell 1 rfl; have p2 := b1.cell 2 rfl; have p3 := b1.cell 3 rfl; have q0 := b2.cell 0 rfl; have q1 := b2.cell 1 rfl; have q2 := b2.cell 2 rfl; have q3 := b2.cell 3 rfl; have x0 := hg.cell HAT.out.1 (by simp); clear b0 b1 b2; go_simp; try with_reducible rfl
  try simp only [Act.put, List.setIfInBounds_toArray, List.set_cons_zero, List.set_cons_succ]
  refine wpAnyH_ready (rs := [8]) (by kernel_rfl) (by simp) ?_
  refine AllReadyH.cons (List.getElem?_toArray.trans rfl) (fun K hK => ?_) AllReadyH.nil
  refine st_nodeO _ _ rfl (w.heap.size + 1) 26 true a1 none none (min i cs.length) 0 0 e1 0 0 rfl rfl _ _ _ _ hHeld.2.2.1 ?_
  intro w5 n5 g5
  refine hK.out _ _ (⟨gb_step hHeld.1 g5 (by omega), hHeld.2.1.keep g5 (ne_some (by omega)), n5, hHeld.2.2.2.1.keep g5 (ne_some (by omega)), hHeld.2.2.2.2.1.keepN (Nbl.node hHeld.2.2.1) g5, hHeld.2.2.2.2.2.keepN (Nbl.node hHeld.2.2.1) g5⟩) (fun hHeld => ?_)
  clear hK K
  try simp only [Act.put, List.setIfInBounds_toArray, List.set_cons_zero, List.set_cons_succ]
  refine wpAnyH_ready (rs := [9]) (by kernel_rfl) (by simp) ?_
  refine AllReadyH.cons (List.getElem?_toArray.trans rfl) (fun K hK => ?_) AllReadyH.nil
  refine st_nodeO _ _ rfl (w.heap.size + 1 + 1) 26 true a3 none none (cs.length - i) 0 0 e3 0 0 rfl rfl _ _ _ _ hHeld.2.2.2.1 ?_
  intro w6 n6 g6
  refine hK.out _ _ (⟨gb_step hHeld.1 g6 (by omega), hHeld.2.1.keep g6 (ne_some (by omega)), hHeld.2.2.1.keep g6 (ne_some (by omega)), n6, hHeld.2.2.2.2.1.keepN (Nbl.node hHeld.2.2.2.1) g6, hHeld.2.2.2.2.2.keepN (Nbl.node hHeld.2.2.2.1) g6⟩) (fun hHeld => ?_)
  clear hK K
  try simp only [Act.put, List.setIfInBounds_toArray, List.set_cons_zero, List.set_cons_succ]
  refine wpAnyH_take (i := 10) (v := ?_) (List.getElem?_toArray.trans rfl) (by kernel_rfl) (by kernel_rfl) (by kernel_rfl) (fun _ _ _ h => h) (Or.inl ⟨by rfl, ?_⟩) hHeld ?_
  rotate_left
  · intro w' hSw; obtain ⟨hg, b0, b1, b2, _, _⟩ := hSw; have d0 := b0.cell 1 rfl; have p0 := b1.cell 0 rfl; have p1 := b1.cell 1 rfl; have p2 := b1.cell 2 rfl; have p3 := b1.cell 3 rfl; have q0 := b2.cell 0 rfl; have q1 := b2.cell 1 rfl; have q2 := b2.cell 2 rfl; have q3 := b2.cell 3 rfl; have x0 := hg.cell HAT.out.1 (by simp); clear b0 b1 b2; go_simp; try with_reducible rfl
  try simp only [Act.put, List.setIfInBounds_toArray, List.set_cons_zero, List.set_cons_succ]
  refine wpAnyH_done (by kernel_rfl) ?_ _
  refine NoPanic.normal ?_
  go_wp2
  refine bodyPost_ret (results_ccs rfl _ _ _ _ _ _ _ _ _ _ _ _ rfl hHeld.2.2.1 rfl hHeld.2.2.2.1) rfl ⟨_, _, rfl, ⟨_, _, _, rfl, hHeld.2.2.2.2.1, Sl.nil _ _, Sl.nil _ _⟩, ⟨_, _, _, rfl, hHeld.2.2.2.2.2, Sl.nil _ _, Sl.nil _ _⟩, hHeld.1⟩
set_option maxRecDepth 100000 in
set_option maxHeartbeats 1000000 in
theorem cutI_any (lf : Bool) (a b c : Value) (ks : List ByteArray) (is : List Int) (i : Nat) (x : ByteArray) (w : World) (hb : Sts w b ks) (hc : Ins w c is) (hl : ks.length ≤ 500000) (hli : is.length = ks.length + 1) (hx : ks[i]? = some x) :
    Calls Tryz.prog 114 #[.agg #[.bool lf, a, b, c], .int .i64 (i : Nat)] w (CutGot ⟨false, [], ks.take i, is.take (i + 1)⟩ ⟨false, [], ks.drop (i + 1), is.drop (i + 1)⟩ x w) := by
  have hi := (List.getElem?_eq_some_iff.1 hx).1
  have hat : ∃ ad ca, b = .slice (some ad) ks.length ca ∧ w.cell? (ad.add i) = some (.string x) := by
    obtain ⟨ao, ca, rfl, h2, h3, h4, h5⟩ := hb
    cases ao with
    | none => have := (h4 rfl).1; omega
    | some ad => exact ⟨ad, ca, rfl, h5 ad rfl i _ (by simp [strsC, hx])⟩
  obtain ⟨ad, ca, rfl, hat⟩ := hat
  obtain ⟨co, cc, rfl⟩ := Sl.shape hc
  have HP1 : Hid (∀ W, w.grownBy W none → Calls Tryz.prog 121 #[.slice (some ad) ks.length ca, .int .i64 0, .int .i64 (i : Nat)] W (GotS (ks.take i) W)) :=
    Lib.hid (fun W g => by have := part_at_S _ ks 0 i 0 i rfl rfl W (stsKeep0 hb g) (by omega) (by omega) (by omega); simpa using this)
  have HP2 : Hid (∀ W, w.grownBy W none → Calls Tryz.prog 122 #[.slice co is.length cc, .int .i64 0, .int .i64 ((i : Nat) + 1)] W (GotI (is.take (i + 1)) W)) :=
    Lib.hid (fun W g => by have := part_at_I _ is 0 ((i : Nat) + 1) 0 (i + 1) rfl rfl W (hc.keep0 g) (by omega) (by omega) (by omega); simpa using this)
  have HP3 : Hid (∀ W, w.grownBy W none → Calls Tryz.prog 121 #[.slice (some ad) ks.length ca, .int .i64 ((i : Nat) + 1), .int .i64 (ks.length : Nat)] W (GotS (ks.drop (i + 1)) W)) :=
    Lib.hid (fun W g => by have := part_at_S _ ks ((i : Nat) + 1) ks.length (i + 1) ks.length rfl rfl W (stsKeep0 hb g) (by omega) (by omega) (by omega); rwa [List.take_of_length_le (by rw [List.length_drop]; omega)] at this)
  have HP4 : Hid (∀ W, w.grownBy W none → Calls Tryz.prog 122 #[.slice co is.length cc, .int .i64 ((i : Nat) + 1), .int .i64 (is.length : Nat)] W (GotI (is.drop (i + 1)) W)) :=
    Lib.hid (fun W g => by have := part_at_I _ is ((i : Nat) + 1) is.length (i + 1) is.length rfl rfl W (hc.keep0 g) (by omega) (by omega) (by omega); rwa [List.take_of_length_le (by rw [List.length_drop]; omega)] at this)
  have HAT := Lib.hid hat
  clear hb hc hat hx
  have hi' : (i : Int) < (ks.length : Int) := by omega
  have q1 : IntKind.i64.wrap ((i : Int) + 1) = (i : Int) + 1 := IntWalk.i64_in _ (by omega)
  have q2 : (0 : Int) ≤ (i : Int) + 1 := by omega
  obtain ⟨w0, hw0, kb, k1, k2, g0, hz⟩ := new3 w 70 #[.bool lf, a, .slice (some ad) ks.length ca, .slice co is.length cc] 26 #[.bool false, .slice none 0 0, .slice none 0 0, .slice none 0 0] 26 #[.bool false, .slice none 0 0, .slice none 0 0, .slice none 0 0]
  have HW := Lib.hid hw0
  have HLI := Lib.hid hli
  clear hw0 hli
  go_enter Tryz.func114, Tryz.ntmps114
  go_wp2
  rw [← HW.out]
  refine wp_region_noPanic ?_
  refine wp_region_held_drew (S := fun w' => w.grownBy w' none ∧ Blk w' w.heap.size 70 #[.bool lf, a, .slice (some ad) ks.length ca, .slice co is.length cc] ∧ Blk w' (w.heap.size + 1 + 1) 26 #[.bool false, .slice none 0 0, .slice none 0 0, .slice none 0 0]) (by kernel_rfl) ⟨gb_trans g0 (gb_drew _ _), kb.keep0 (gb_drew _ _), k2.keep0 (gb_drew _ _)⟩ (fun hHeld => ?_)
  refine wpAnyH_take (i := 0) (v := ?_) (List.getElem?_toArray.trans rfl) (by kernel_rfl) (by kernel_rfl) (by kernel_rfl) (fun _ _ _ h => h) (Or.inl ⟨by rfl, ?_⟩) hHeld ?_
  rotate_left
  · intro w' hSw; obtain ⟨hg, b0, b2⟩ := hSw; have d2 := b0.cell 2 rfl; have d3 := b0.cell 3 rfl; clear b0 b2; go_simp; try with_reducible rfl
  try simp only [Act.put, List.setIfInBounds_toArray, List.set_cons_zero, List.set_cons_succ]
  refine wpAnyH_take (i := 1) (v := ?_) (List.getElem?_toArray.trans rfl) (by kernel_rfl) (by kernel_rfl) (by kernel_rfl) (fun _ _ _ h => h) (Or.inl ⟨by rfl, ?_⟩) hHeld ?_
  rotate_left
  · intro w' hSw; obtain ⟨hg, b0, b2⟩ := hSw; have d2 := b0.cell 2 rfl; have d3 := b0.cell 3 rfl; clear b0 b2; go_simp; try with_reducible rfl
  try simp only [Act.put, List.setIfInBounds_toArray, List.set_cons_zero, List.set_cons_succ]
  refine wpAnyH_take (i := 2) (v := ?_) (List.getElem?_toArray.trans rfl) (by kernel_rfl) (by kernel_rfl) (by kernel_rfl) (fun _ _ _ h => h) (Or.inl ⟨by rfl, ?_⟩) hHeld ?_
  rotate_left
  · intro w' hSw; obtain ⟨hg, b0, b2⟩ := hSw; have d2 := b0.cell 2 rfl; have d3 := b0.cell 3 rfl; clear b0 b2; go_simp; try with_reducible rfl
  try simp only [Act.put, List.setIfInBounds_toArray, List.set_cons_zero, List.set_cons_succ]
  refine wpAnyH_take (i := 4) (v := ?_) (List.getElem?_toArray.trans rfl) (by kernel_rfl) (by kernel_rfl) (by kernel_rfl) (fun _ _ _ h => h) (Or.inl ⟨by rfl, ?_⟩) hHeld ?_
  rotate_left
  · intro w' hSw; obtain ⟨hg, b0, b2⟩ := hSw; have d2 := b0.cell 2 rfl; have d3 := b0.cell 3 rfl; clear b0 b2; go_simp; try with_reducible rfl
  try simp only [Act.put, List.setIfInBounds_toArray, List.set_cons_zero, List.set_cons_succ]
  refine wpAnyH_take (i := 5) (v := ?_) (List.getElem?_toArray.trans rfl) (by kernel_rfl) (by kernel_rfl) (by kernel_rfl) (fun _ _ _ h => h) (Or.inl ⟨by rfl, ?_⟩) hHeld ?_
  rotate_left
  · intro w' hSw; obtain ⟨hg, b0, b2⟩ := hSw; have d2 := b0.cell 2 rfl; have d3 := b0.cell 3 rfl; clear b0 b2; go_simp; try with_reducible rfl
  try simp only [Act.put, List.setIfInBounds_toArray, List.set_cons_zero, List.set_cons_succ]
  refine wpAnyH_take (i := 6) (v := ?_) (List.getElem?_toArray.trans rfl) (by kernel_rfl) (by kernel_rfl) (by kernel_rfl) (fun _ _ _ h => h) (Or.inl ⟨by rfl, ?_⟩) hHeld ?_
  rotate_left
  · intro w' hSw; obtain ⟨hg, b0, b2⟩ := hSw; have d2 := b0.cell 2 rfl; have d3 := b0.cell 3 rfl; clear b0 b2; go_simp; try with_reducible rfl
  try simp only [Act.put, List.setIfInBounds_toArray, List.set_cons_zero, List.set_cons_succ]
  refine wpAnyH_take (i := 7) (v := ?_) (List.getElem?_toArray.trans rfl) (by kernel_rfl) (by kernel_rfl) (by kernel_rfl) (fun _ _ _ h => h) (Or.inl ⟨by rfl, ?_⟩) hHeld ?_
  rotate_left
  · intro w' hSw; obtain ⟨hg, b0, b2⟩ := hSw; have d2 := b0.cell 2 rfl; have d3 := b0.cell 3 rfl; clear b0 b2; go_simp; try with_reducible rfl
  try simp only [Act.put, List.setIfInBounds_toArray, List.set_cons_zero, List.set_cons_succ]
  refine wpAnyH_ready (rs := [3]) (by kernel_rfl) (by simp) ?_
  refine AllReadyH.cons (List.getElem?_toArray.trans rfl) (fun K hK => ?_) AllReadyH.nil
  replace k1 := k1.keep0 (gb_drew w0 none)
  go_simp
  go_at_call 121
  (with_reducible refine (HP1.out _ hHeld.1).mono ?_)
  rintro e w1 ⟨v1, rfl, h1, g1⟩
  obtain ⟨a1, e1, rfl⟩ := Sl.shape h1
  rw [List.length_take] at h1
  have H1 := Lib.hid h1
  clear h1
  replace k1 := k1.keep0 g1
  refine hK.out _ _ (⟨gb_trans hHeld.1 g1, hHeld.2.1.keep0 g1, hHeld.2.2.keep0 g1⟩) (fun hHeld => ?_)
  clear hK K
  try simp only [Act.put, List.setIfInBounds_toArray, List.set_cons_zero, List.set_cons_succ]
  refine wpAnyH_ready (rs := [8]) (by kernel_rfl) (by simp) ?_
  refine AllReadyH.cons (List.getElem?_toArray.trans rfl) (fun K hK => ?_) AllReadyH.nil
  go_simp
  go_at_call 122
  (with_reducible refine (HP2.out _ hHeld.1).mono ?_)
  rintro e w2 ⟨v2, rfl, h2, g2⟩
  obtain ⟨a2, e2, rfl⟩ := Sl.shape h2
  rw [List.length_take] at h2
  have H2 := Lib.hid h2
  clear h2
  replace H1 := Lib.hid (stsKeep0 H1.out g2)
  replace k1 := k1.keep0 g2
  refine hK.out _ _ (⟨gb_trans hHeld.1 g2, hHeld.2.1.keep0 g2, hHeld.2.2.keep0 g2⟩) (fun hHeld => ?_)
  clear hK K
  try simp only [Act.put, List.setIfInBounds_toArray, List.set_cons_zero, List.set_cons_succ]
  refine wpAnyH_take (i := 9) (v := ?_) (List.getElem?_toArray.trans rfl) (by kernel_rfl) (by kernel_rfl) (by kernel_rfl) (fun _ _ _ h => h) (Or.inl ⟨by rfl, ?_⟩) hHeld ?_
  rotate_left
  · intro w' hSw; obtain ⟨hg, b0, b2⟩ := hSw; have d2 := b0.cell 2 rfl; have d3 := b0.cell 3 rfl; clear b0 b2; go_simp; try with_reducible rfl
  try simp only [Act.put, List.setIfInBounds_toArray, List.set_cons_zero, List.set_cons_succ]
  refine wpAnyH_ready (rs := [10]) (by kernel_rfl) (by simp) ?_
  refine AllReadyH.cons (List.getElem?_toArray.trans rfl) (fun K hK => ?_) AllReadyH.nil
  refine st_nodeO _ _ rfl (w.heap.size + 1) 26 false none a1 a2 0 (min i ks.length) (min (i + 1) is.length) 0 e1 e2 rfl (by first | rfl | simp [Act.eval]) _ _ _ _ k1 ?_
  intro w3 n3 g3
  replace H1 := Lib.hid (stsKeepN H1.out (Nbl.node k1) g3)
  replace H2 := Lib.hid (H2.out.keepN (Nbl.node k1) g3)
  refine hK.out _ _ (⟨gb_step hHeld.1 g3 (by omega), hHeld.2.1.keep g3 (ne_some (by omega)), hHeld.2.2.keep g3 (ne_some (by omega))⟩) (fun hHeld => ?_)
  clear hK K
  try simp only [Act.put, List.setIfInBounds_toArray, List.set_cons_zero, List.set_cons_succ]
  refine wpAnyH_done (by kernel_rfl) ?_ _
  refine NoPanic.normal ?_
  clear k1
  have k1 := n3
  clear n3 g3
  obtain ⟨g0, kb, k2⟩ := hHeld
  go_wp2
  refine wp_region_noPanic ?_
  refine wp_region_held_drew (S := fun w' => w.grownBy w' none ∧ Blk w' w.heap.size 70 #[.bool lf, a, .slice (some ad) ks.length ca, .slice co is.length cc] ∧ Blk w' (w.heap.size + 1) 26 #[.bool false, .slice none 0 0, .slice a1 (min i ks.length) e1, .slice a2 (min (i + 1) is.length) e2]) (by kernel_rfl) ⟨gb_trans g0 (gb_drew _ _), kb.keep0 (gb_drew _ _), k1.keep0 (gb_drew _ _)⟩ (fun hHeld => ?_)
  refine wpAnyH_take (i := 0) (v := ?_) (List.getElem?_toArray.trans rfl) (by kernel_rfl) (by kernel_rfl) (by kernel_rfl) (fun _ _ _ h => h) (Or.inl ⟨by rfl, ?_⟩) hHeld ?_
  rotate_left
  · intro w' hSw; obtain ⟨hg, b0, b2⟩ := hSw; have d2 := b0.cell 2 rfl; have d3 := b0.cell 3 rfl; clear b0 b2; go_simp; try with_reducible rfl
  try simp only [Act.put, List.setIfInBounds_toArray, List.set_cons_zero, List.set_cons_succ]
  refine wpAnyH_take (i := 1) (v := ?_) (List.getElem?_toArray.trans rfl) (by kernel_rfl) (by kernel_rfl) (by kernel_rfl) (fun _ _ _ h => h) (Or.inl ⟨by rfl, ?_⟩) hHeld ?_
  rotate_left
  · intro w' hSw; obtain ⟨hg, b0, b2⟩ := hSw; have d2 := b0.cell 2 rfl; have d3 := b0.cell 3 rfl; clear b0 b2; go_simp; try with_reducible rfl
  try simp only [Act.put, List.setIfInBounds_toArray, List.set_cons_zero, List.set_cons_succ]
  refine wpAnyH_take (i := 2) (v := ?_) (List.getElem?_toArray.trans rfl) (by kernel_rfl) (by kernel_rfl) (by kernel_rfl) (fun _ _ _ h => h) (Or.inl ⟨by rfl, ?_⟩) hHeld ?_
  rotate_left
  · intro w' hSw; obtain ⟨hg, b0, b2⟩ := hSw; have d2 := b0.cell 2 rfl; have d3 := b0.cell 3 rfl; clear b0 b2; go_simp; try with_reducible rfl
  try simp only [Act.put, List.setIfInBounds_toArray, List.set_cons_zero, List.set_cons_succ]
  refine wpAnyH_take (i := 3) (v := ?_) (List.getElem?_toArray.trans rfl) (by kernel_rfl) (by kernel_rfl) (by kernel_rfl) (fun _ _ _ h => h) (Or.inl ⟨by rfl, ?_⟩) hHeld ?_
  rotate_left
  · intro w' hSw; obtain ⟨hg, b0, b2⟩ := hSw; have d2 := b0.cell 2 rfl; have d3 := b0.cell 3 rfl; clear b0 b2; go_simp; try with_reducible rfl
  try simp only [Act.put, List.setIfInBounds_toArray, List.set_cons_zero, List.set_cons_succ]
  refine wpAnyH_take (i := 4) (v := ?_) (List.getElem?_toArray.trans rfl) (by kernel_rfl) (by kernel_rfl) (by kernel_rfl) (fun _ _ _ h => h) (Or.inl ⟨by rfl, ?_⟩) hHeld ?_
  rotate_left
  · intro w' hSw; obtain ⟨hg, b0, b2⟩ := hSw; have d2 := b0.cell 2 rfl; have d3 := b0.cell 3 rfl; clear b0 b2; go_simp; try with_reducible rfl
  try simp only [Act.put, List.setIfInBounds_toArray, List.set_cons_zero, List.set_cons_succ]
  refine wpAnyH_take (i := 5) (v := ?_) (List.getElem?_toArray.trans rfl) (by kernel_rfl) (by kernel_rfl) (by kernel_rfl) (fun _ _ _ h => h) (Or.inl ⟨by rfl, ?_⟩) hHeld ?_
  rotate_left
  · intro w' hSw; obtain ⟨hg, b0, b2⟩ := hSw; have d2 := b0.cell 2 rfl; have d3 := b0.cell 3 rfl; clear b0 b2; go_simp; try with_reducible rfl
  try simp only [Act.put, List.setIfInBounds_toArray, List.set_cons_zero, List.set_cons_succ]
  refine wpAnyH_take (i := 6) (v := ?_) (List.getElem?_toArray.trans rfl) (by kernel_rfl) (by kernel_rfl) (by kernel_rfl) (fun _ _ _ h => h) (Or.inl ⟨by rfl, ?_⟩) hHeld ?_
  rotate_left
  · intro w' hSw; obtain ⟨hg, b0, b2⟩ := hSw; have d2 := b0.cell 2 rfl; have d3 := b0.cell 3 rfl; clear b0 b2; go_simp; try with_reducible rfl
  try simp only [Act.put, List.setIfInBounds_toArray, List.set_cons_zero, List.set_cons_succ]
  refine wpAnyH_take (i := 8) (v := ?_) (List.getElem?_toArray.trans rfl) (by kernel_rfl) (by kernel_rfl) (by kernel_rfl) (fun _ _ _ h => h) (Or.inl ⟨by rfl, ?_⟩) hHeld ?_
  rotate_left
  · intro w' hSw; obtain ⟨hg, b0, b2⟩ := hSw; have d2 := b0.cell 2 rfl; have d3 := b0.cell 3 rfl; clear b0 b2; go_simp; try with_reducible rfl
  try simp only [Act.put, List.setIfInBounds_toArray, List.set_cons_zero, List.set_cons_succ]
  refine wpAnyH_take (i := 9) (v := ?_) (List.getElem?_toArray.trans rfl) (by kernel_rfl) (by kernel_rfl) (by kernel_rfl) (fun _ _ _ h => h) (Or.inl ⟨by rfl, ?_⟩) hHeld ?_
  rotate_left
  · intro w' hSw; obtain ⟨hg, b0, b2⟩ := hSw; have d2 := b0.cell 2 rfl; have d3 := b0.cell 3 rfl; clear b0 b2; go_simp; try with_reducible rfl
  try simp only [Act.put, List.setIfInBounds_toArray, List.set_cons_zero, List.set_cons_succ]
  refine wpAnyH_take (i := 10) (v := ?_) (List.getElem?_toArray.trans rfl) (by kernel_rfl) (by kernel_rfl) (by kernel_rfl) (fun _ _ _ h => h) (Or.inl ⟨by rfl, ?_⟩) hHeld ?_
  rotate_left
  · intro w' hSw; obtain ⟨hg, b0, b2⟩ := hSw; have d2 := b0.cell 2 rfl; have d3 := b0.cell 3 rfl; clear b0 b2; go_simp; try with_reducible rfl
  try simp only [Act.put, List.setIfInBounds_toArray, List.set_cons_zero, List.set_cons_succ]
  refine wpAnyH_take (i := 11) (v := ?_) (List.getElem?_toArray.trans rfl) (by kernel_rfl) (by kernel_rfl) (by kernel_rfl) (fun _ _ _ h => h) (Or.inl ⟨by rfl, ?_⟩) hHeld ?_
  rotate_left
  · intro w' hSw; obtain ⟨hg, b0, b2⟩ := hSw; have d2 := b0.cell 2 rfl; have d3 := b0.cell 3 rfl; clear b0 b2; go_simp; try with_reducible rfl
  try simp only [Act.put, List.setIfInBounds_toArray, List.set_cons_zero, List.set_cons_succ]
  refine wpAnyH_take (i := 12) (v := ?_) (List.getElem?_toArray.trans rfl) (by kernel_rfl) (by kernel_rfl) (by kernel_rfl) (fun _ _ _ h => h) (Or.inl ⟨by rfl, ?_⟩) hHeld ?_
  rotate_left
  · intro w' hSw; obtain ⟨hg, b0, b2⟩ := hSw; have d2 := b0.cell 2 rfl; have d3 := b0.cell 3 rfl; clear b0 b2; go_simp; try with_reducible rfl
  try simp only [Act.put, List.setIfInBounds_toArray, List.set_cons_zero, List.set_cons_succ]
  refine wpAnyH_take (i := 13) (v := ?_) (List.getElem?_toArray.trans rfl) (by kernel_rfl) (by kernel_rfl) (by kernel_rfl) (fun _ _ _ h => h) (Or.inl ⟨by rfl, ?_⟩) hHeld ?_
  rotate_left
  · intro w' hSw; obtain ⟨hg, b0, b2⟩ := hSw; have d2 := b0.cell 2 rfl; have d3 := b0.cell 3 rfl; clear b0 b2; go_simp; try with_reducible rfl
  try simp only [Act.put, List.setIfInBounds_toArray, List.set_cons_zero, List.set_cons_succ]
  refine wpAnyH_take (i := 14) (v := ?_) (List.getElem?_toArray.trans rfl) (by kernel_rfl) (by kernel_rfl) (by kernel_rfl) (fun _ _ _ h => h) (Or.inl ⟨by rfl, ?_⟩) hHeld ?_
  rotate_left
  · intro w' hSw; obtain ⟨hg, b0, b2⟩ := hSw; have d2 := b0.cell 2 rfl; have d3 := b0.cell 3 rfl; clear b0 b2; go_simp; try with_reducible rfl
  try simp only [Act.put, List.setIfInBounds_toArray, List.set_cons_zero, List.set_cons_succ]
  refine wpAnyH_ready (rs := [7]) (by kernel_rfl) (by simp) ?_
  refine AllReadyH.cons (List.getElem?_toArray.trans rfl) (fun K hK => ?_) AllReadyH.nil
  replace k2 := k2.keep0 (gb_drew w3 none)
  replace H1 := Lib.hid (stsKeep0 H1.out (gb_drew w3 none))
  replace H2 := Lib.hid (H2.out.keep0 (gb_drew w3 none))
  go_simp
  go_at_call 121
  (with_reducible refine (HP3.out _ hHeld.1).mono ?_)
  rintro e w4 ⟨v3, rfl, h3, g4⟩
  obtain ⟨a3, e3, rfl⟩ := Sl.shape h3
  rw [List.length_drop] at h3
  have H3 := Lib.hid h3
  clear h3
  replace k2 := k2.keep0 g4
  replace H1 := Lib.hid (stsKeep0 H1.out g4)
  replace H2 := Lib.hid (H2.out.keep0 g4)
  refine hK.out _ _ (⟨gb_trans hHeld.1 g4, hHeld.2.1.keep0 g4, hHeld.2.2.keep0 g4⟩) (fun hHeld => ?_)
  clear hK K
  try simp only [Act.put, List.setIfInBounds_toArray, List.set_cons_zero, List.set_cons_succ]
  refine wpAnyH_ready (rs := [15]) (by kernel_rfl) (by simp) ?_
  refine AllReadyH.cons (List.getElem?_toArray.trans rfl) (fun K hK => ?_) AllReadyH.nil
  go_simp
  go_at_call 122
  (with_reducible refine (HP4.out _ hHeld.1).mono ?_)
  rintro e w5 ⟨v4, rfl, h4, g5⟩
  obtain ⟨a4, e4, rfl⟩ := Sl.shape h4
  rw [List.length_drop] at h4
  have H4 := Lib.hid h4
  clear h4
  replace k2 := k2.keep0 g5
  replace H1 := Lib.hid (stsKeep0 H1.out g5)
  replace H2 := Lib.hid (H2.out.keep0 g5)
  replace H3 := Lib.hid (stsKeep0 H3.out g5)
  refine hK.out _ _ (⟨gb_trans hHeld.1 g5, hHeld.2.1.keep0 g5, hHeld.2.2.keep0 g5⟩) (fun hHeld => ?_)
  clear hK K
  try simp only [Act.put, List.setIfInBounds_toArray, List.set_cons_zero, List.set_cons_succ]
  refine wpAnyH_take (i := 16) (v := ?_) (List.getElem?_toArray.trans rfl) (by kernel_rfl) (by kernel_rfl) (by kernel_rfl) (fun _ _ _ h => h) (Or.inl ⟨by rfl, ?_⟩) hHeld ?_
  rotate_left
  · intro w' hSw; obtain ⟨hg, b0, b2⟩ := hSw; have d2 := b0.cell 2 rfl; have d3 := b0.cell 3 rfl; clear b0 b2; go_simp; try with_reducible rfl
  try simp only [Act.put, List.setIfInBounds_toArray, List.set_cons_zero, List.set_cons_succ]
  refine wpAnyH_ready (rs := [17]) (by kernel_rfl) (by simp) ?_
  refine AllReadyH.cons (List.getElem?_toArray.trans rfl) (fun K hK => ?_) AllReadyH.nil
  refine st_nodeO _ _ rfl (w.heap.size + 1 + 1) 26 false none a3 a4 0 (ks.length - (i + 1)) (is.length - (i + 1)) 0 e3 e4 rfl (by first | rfl | simp [Act.eval]) _ _ _ _ k2 ?_
  intro w6 n6 g6
  replace H1 := Lib.hid (stsKeepN H1.out (Nbl.node k2) g6)
  replace H2 := Lib.hid (H2.out.keepN (Nbl.node k2) g6)
  replace H3 := Lib.hid (stsKeepN H3.out (Nbl.node k2) g6)
  replace H4 := Lib.hid (H4.out.keepN (Nbl.node k2) g6)
  refine hK.out _ _ (⟨gb_step hHeld.1 g6 (by omega), hHeld.2.1.keep g6 (ne_some (by omega)), hHeld.2.2.keep g6 (ne_some (by omega))⟩) (fun hHeld => ?_)
  clear hK K
  try simp only [Act.put, List.setIfInBounds_toArray, List.set_cons_zero, List.set_cons_succ]
  refine wpAnyH_done (by kernel_rfl) ?_ _
  refine NoPanic.normal ?_
  clear k2
  have k2 := n6
  clear n6 g6
  obtain ⟨g0, kb, k1⟩ := hHeld
  go_wp2
  refine wp_region_noPanic ?_
  refine wp_region_held_drew (S := fun w' => w.grownBy w' none ∧ Blk w' w.heap.size 70 #[.bool lf, a, .slice (some ad) ks.length ca, .slice co is.length cc] ∧ Blk w' (w.heap.size + 1) 26 #[.bool false, .slice none 0 0, .slice a1 (min i ks.length) e1, .slice a2 (min (i + 1) is.length) e2] ∧ Blk w' (w.heap.size + 1 + 1) 26 #[.bool false, .slice none 0 0, .slice a3 (ks.length - (i + 1)) e3, .slice a4 (is.length - (i + 1)) e4]) (by kernel_rfl) ⟨gb_trans g0 (gb_drew _ _), kb.keep0 (gb_drew _ _), k1.keep0 (gb_drew _ _), k2.keep0 (gb_drew _ _)⟩ (fun hHeld => ?_)
  refine wpAnyH_take (i := 0) (v := ?_) (List.getElem?_toArray.trans rfl) (by kernel_rfl) (by kernel_rfl) (by kernel_rfl) (fun _ _ _ h => h) (Or.inl ⟨by rfl, ?_⟩) hHeld ?_
  rotate_left
  · intro w' hSw; obtain ⟨hg, b0, b1, b2⟩ := hSw; have d0 := b0.cell 2 rfl; have p0 := b1.cell 0 rfl; have p1 := b1.cell 1 rfl; have p2 := b1.cell 2 rfl; have p3 := b1.cell 3 rfl; have q0 := b2.cell 0 rfl; have q1 := b2.cell 1 rfl; have q2 := b2.cell 2 rfl; have q3 := b2.cell 3 rfl; have x0 := hg.cell HAT.out (by simp); clear b0 b1 b2; go_simp; try with_reducible rfl
  try simp only [Act.put, List.setIfInBounds_toArray, List.set_cons_zero, List.set_cons_succ]
  refine wpAnyH_take (i := 1) (v := ?_) (List.getElem?_toArray.trans rfl) (by kernel_rfl) (by kernel_rfl) (by kernel_rfl) (fun _ _ _ h => h) (Or.inl ⟨by rfl, ?_⟩) hHeld ?_
  rotate_left
  · intro w' hSw; obtain ⟨hg, b0, b1, b2⟩ := hSw; have d0 := b0.cell 2 rfl; have p0 := b1.cell 0 rfl; have p1 := b1.cell 1 rfl; have p2 := b1.cell 2 rfl; have p3 := b1.cell 3 rfl; have q0 := b2.cell 0 rfl; have q1 := b2.cell 1 rfl; have q2 := b2.cell 2 rfl; have q3 := b2.cell 3 rfl; have x0 := hg.cell HAT.out (by simp); clear b0 b1 b2; go_simp; try with_reducible rfl
  try simp only [Act.put, List.setIfInBounds_toArray, List.set_cons_zero, List.set_cons_succ]
  refine wpAnyH_take (i := 2) (v := ?_) (List.getElem?_toArray.trans rfl) (by kernel_rfl) (by kernel_rfl) (by kernel_rfl) (fun _ _ _ h => h) (Or.inl ⟨by rfl, ?_⟩) hHeld ?_
  rotate_left
  · intro w' hSw; obtain ⟨hg, b0, b1, b2⟩ := hSw; have d0 := b0.cell 2 rfl; have p0 := b1.cell 0 rfl; have p1 := b1.cell 1 rfl; have p2 := b1.cell 2 rfl; have p3 := b1.cell 3 rfl; have q0 := b2.cell 0 rfl; have q1 := b2.cell 1 rfl; have q2 := b2.cell 2 rfl; have q3 := b2.cell 3 rfl; have x0 := hg.cell HAT.out (by simp); clear b0 b1 b2; go_simp; try with_reducible rfl
  try simp only [Act.put, List.setIfInBounds_toArray, List.set_cons_zero, List.set_cons_succ]
  refine wpAnyH_take (i := 3) (v := ?_) (List.getElem?_toArray.trans rfl) (by kernel_rfl) (by kernel_rfl) (by kernel_rfl) (fun _ _ _ h => h) (Or.inl ⟨by rfl, ?_⟩) hHeld ?_
  rotate_left
  · intro w' hSw; obtain ⟨hg, b0, b1, b2⟩ := hSw; have d0 := b0.cell 2 rfl; have p0 := b1.cell 0 rfl; have p1 := b1.cell 1 rfl; have p2 := b1.cell 2 rfl; have p3 := b1.cell 3 rfl; have q0 := b2.cell 0 rfl; have q1 := b2.cell 1 rfl; have q2 := b2.cell 2 rfl; have q3 := b2.cell 3 rfl; have x0 := hg.cell HAT.out (by simp); clear b0 b1 b2; go_simp; try with_reducible rfl
  try simp only [Act.put, List.setIfInBounds_toArray, List.set_cons_zero, List.set_cons_succ]
  refine wpAnyH_take (i := 4) (v := ?_) (List.getElem?_toArray.trans rfl) (by kernel_rfl) (by kernel_rfl) (by kernel_rfl) (fun _ _ _ h => h) (Or.inl ⟨by rfl, ?_⟩) hHeld ?_
  rotate_left
  · intro w' hSw; obtain ⟨hg, b0, b1, b2⟩ := hSw; have d0 := b0.cell 2 rfl; have p0 := b1.cell 0 rfl; have p1 := b1.cell 1 rfl; have p2 := b1.cell 2 rfl; have p3 := b1.cell 3 rfl; have q0 := b2.cell 0 rfl; have q1 := b2.cell 1 rfl; have q2 := b2.cell 2 rfl; have q3 := b2.cell 3 rfl; have x0 := hg.cell HAT.out (by simp); clear b0 b1 b2; go_simp; try with_reducible rfl
  try simp only [Act.put, List.setIfInBounds_toArray, List.set_cons_zero, List.set_cons_succ]
  refine wpAnyH_take (i := 5) (v := ?_) (List.getElem?_toArray.trans rfl) (by kernel_rfl) (by kernel_rfl) (by kernel_rfl) (fun _ _ _ h => h) (Or.inl ⟨by rfl, ?_⟩) hHeld ?_
  rotate_left
  · intro w' hSw; obtain ⟨hg, b0, b1, b2⟩ := hSw; have d0 := b0.cell 2 rfl; have p0 := b1.cell 0 rfl; have p1 := b1.cell 1 rfl; have p2 := b1.cell 2 rfl; have p3 := b1.cell 3 rfl; have q0 := b2.cell 0 rfl; have q1 := b2.cell 1 rfl; have q2 := b2.cell 2 rfl; have q3 := b2.cell 3 rfl; have x0 := hg.cell HAT.out (by simp); clear b0 b1 b2; go_simp; try with_reducible rfl
  try simp only [Act.put, List.setIfInBounds_toArray, List.set_cons_zero, List.set_cons_succ]
  refine wpAnyH_take (i := 6) (v := ?_) (List.getElem?_toArray.trans rfl) (by kernel_rfl) (by kernel_rfl) (by kernel_rfl) (fun _ _ _ h => h) (Or.inl ⟨by rfl, ?_⟩) hHeld ?_
  rotate_left
  · intro w' hSw; obtain ⟨hg, b0, b1, b2⟩ := hSw; have d0 := b0.cell 2 rfl; have p0 := b1.cell 0 rfl; have p1 := b1.cell 1 rfl; have p2 := b1.cell 2 rfl; have p3 := b1.cell 3 rfl; have q0 := b2.cell 0 rfl; have q1 := b2.cell 1 rfl; have q2 := b2.cell 2 rfl; have q3 := b2.cell 3 rfl; have x0 := hg.cell HAT.out (by simp); clear b0 b1 b2; go_simp; try with_reducible rfl
  try simp only [Act.put, List.setIfInBounds_toArray, List.set_cons_zero, List.set_cons_succ]
  refine wpAnyH_ready (rs := [7]) (by kernel_rfl) (by simp) ?_
  refine AllReadyH.cons (List.getElem?_toArray.trans rfl) (fun K hK => ?_) AllReadyH.nil
  replace H1 := Lib.hid (stsKeep0 H1.out (gb_drew w6 none))
  replace H2 := Lib.hid (H2.out.keep0 (gb_drew w6 none))
  replace H3 := Lib.hid (stsKeep0 H3.out (gb_drew w6 none))
  replace H4 := Lib.hid (H4.out.keep0 (gb_drew w6 none))
  refine st_nodeO _ _ rfl (w.heap.size + 1) 26 false none a1 a2 0 (min i ks.length) (min (i + 1) is.length) 0 e1 e2 rfl rfl _ _ _ _ hHeld.2.2.1 ?_
  intro w7 n7 g7
  replace H1 := Lib.hid (stsKeepN H1.out (Nbl.node hHeld.2.2.1) g7)
  replace H2 := Lib.hid (H2.out.keepN (Nbl.node hHeld.2.2.1) g7)
  replace H3 := Lib.hid (stsKeepN H3.out (Nbl.node hHeld.2.2.1) g7)
  replace H4 := Lib.hid (H4.out.keepN (Nbl.node hHeld.2.2.1) g7)
  refine hK.out _ _ (⟨gb_step hHeld.1 g7 (by omega), hHeld.2.1.keep g7 (ne_some (by omega)), n7, hHeld.2.2.2.keep g7 (ne_some (by omega))⟩) (fun hHeld => ?_)
  clear hK K
  try simp only [Act.put, List.setIfInBounds_toArray, List.set_cons_zero, List.set_cons_succ]
  refine wpAnyH_ready (rs := [8]) (by kernel_rfl) (by simp) ?_
  refine AllReadyH.cons (List.getElem?_toArray.trans rfl) (fun K hK => ?_) AllReadyH.nil
  refine st_nodeO _ _ rfl (w.heap.size + 1 + 1) 26 false none a3 a4 0 (ks.length - (i + 1)) (is.length - (i + 1)) 0 e3 e4 rfl rfl _ _ _ _ hHeld.2.2.2 ?_
  intro w8 n8 g8
  replace H1 := Lib.hid (stsKeepN H1.out (Nbl.node hHeld.2.2.2) g8)
  replace H2 := Lib.hid (H2.out.keepN (Nbl.node hHeld.2.2.2) g8)
  replace H3 := Lib.hid (stsKeepN H3.out (Nbl.node hHeld.2.2.2) g8)
  replace H4 := Lib.hid (H4.out.keepN (Nbl.node hHeld.2.2.2) g8)
  refine hK.out _ _ (⟨gb_step hHeld.1 g8 (by omega), hHeld.2.1.keep g8 (ne_some (by omega)), hHeld.2.2.1.keep g8 (ne_some (by omega)), n8⟩) (fun hHeld => ?_)
  clear hK K
  try simp only [Act.put, List.setIfInBounds_toArray, List.set_cons_zero, List.set_cons_succ]
  refine wpAnyH_take (i := 9) (v := ?_) (List.getElem?_toArray.trans rfl) (by kernel_rfl) (by kernel_rfl) (by kernel_rfl) (fun _ _ _ h => h) (Or.inl ⟨by rfl, ?_⟩) hHeld ?_
  rotate_left
  · intro w' hSw; obtain ⟨hg, b0, b1, b2⟩ := hSw; have d0 := b0.cell 2 rfl; have p0 := b1.cell 0 rfl; have p1 := b1.cell 1 rfl; have p2 := b1.cell 2 rfl; have p3 := b1.cell 3 rfl; have q0 := b2.cell 0 rfl; have q1 := b2.cell 1 rfl; have q2 := b2.cell 2 rfl; have q3 := b2.cell 3 rfl; have x0 := hg.cell HAT.out (by simp); clear b0 b1 b2; go_simp; try with_reducible rfl
  try simp only [Act.put, List.setIfInBounds_toArray, List.set_cons_zero, List.set_cons_succ]
  refine wpAnyH_done (by kernel_rfl) ?_ _
  refine NoPanic.normal ?_
  go_wp2
  refine bodyPost_ret (results_ccs rfl _ _ _ _ _ _ _ _ _ _ _ _ rfl hHeld.2.2.1 rfl hHeld.2.2.2) rfl ⟨_, _, rfl, ⟨_, _, _, rfl, Sl.nil _ _, ?_, ?_⟩, ⟨_, _, _, rfl, Sl.nil _ _, ?_, ?_⟩, hHeld.1⟩
  · exact H1.out
  · exact H2.out
  · exact H3.out
  · exact H4.out
end Go.Proofs.YthhimhjegodklaaGreat.N11

