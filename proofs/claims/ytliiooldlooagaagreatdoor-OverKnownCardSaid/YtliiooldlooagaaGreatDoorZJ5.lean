/-
  Texts of one layer, one behind the other, each with its own sentence; conditions: those that each law states.
-/
import Derived.Test.YtliiooldlooagaaGreatDoorZJ4
set_option linter.unusedSimpArgs false
set_option linter.unusedVariables false

/-
  What lays a commit on the disk (lay): its walk, over this seat's translation; conditions: LayA.
-/
namespace Go.Proofs.YtliiooldlooagaaGreatDoor.J10
open Go.RowKit Go.Maps
theorem ba_ext {a b : ByteArray} (h : a.data.toList = b.data.toList) : a = b := by
  obtain ⟨a⟩ := a
  obtain ⟨b⟩ := b
  have h' : a = b := Array.toList_inj.1 h
  rw [h']
theorem ba_size {a : ByteArray} {l : List UInt8} (h : a.data.toList = l) : a.size = l.length := by
  rw [← h]; rfl
theorem at_ok_W {s : D5.St} {k M : Nat} {a : List ByteArray} {b : List (Int × ByteArray)} (hok : (atD s k a b).Ok M) {i : Int} {d : ByteArray} (hm : D5.mayW (atD s k a b) i d = true) :
    (cutAt s k → (dnD s k a b).Ok (M + 1)) ∧ (¬ cutAt s k → (atD s (k + 1) a (b ++ [(i, d)])).Ok (M + 1)) := by
  have h := hok.write i d
  exact ⟨fun hc => by rw [at_W_cut hc hm] at h; exact h, fun hc => by rw [at_W_go hc hm] at h; exact h⟩
theorem at_ok_B {s : D5.St} {k M : Nat} {a : List ByteArray} {b : List (Int × ByteArray)} (hok : (atD s k a b).Ok M) :
    (cutAt s k → (dnD s k a b).Ok (M + 1)) ∧ (¬ cutAt s k → (atD s (k + 1) (D5.laidF b a) []).Ok (M + 1)) := by
  have h := hok.bar
  exact ⟨fun hc => by rw [at_B_cut hc] at h; exact h, fun hc => by rw [at_B_go hc] at h; exact h⟩
theorem cut_more {s : D5.St} {j k : Nat} (h : cutAt s j) (hk : j ≤ k) : cutAt s k := ⟨h.1, by have := h.2; omega⟩
/-- A write; a barrier: what they answer, and the disk then. -/
def StepG (w w' : World) (base : Nat) (k : Bk) (g : Pg) (j M : Nat) (a : List ByteArray) (b : List (Int × ByteArray)) (a' : List ByteArray) (b' : List (Int × ByteArray)) (E : Int) : Prop :=
  (cutAt g.d j ∧ E = 10 ∧ LayI w w' base k g (dnD g.d j a b) ∧ (dnD g.d j a b).Ok (M + 1)) ∨ (¬ cutAt g.d j ∧ E = 0 ∧ LayI w w' base k g (atD g.d (j + 1) a' b') ∧ (atD g.d (j + 1) a' b').Ok (M + 1))
theorem step_W {w wz : World} {base j M : Nat} {k : Bk} {g : Pg} {a : List ByteArray} {b : List (Int × ByteArray)} (h : LayI w wz base k g (atD g.d j a b)) (hok : (atD g.d j a b).Ok M) (hM : M ≤ 900000) (hb : base ≤ w.heap.size) {i : Int} {d : ByteArray} (hi : In64 i) (hm : D5.mayW (atD g.d j a b) i d = true) :
    Calls Tryz.prog 65 #[.pointer (some ⟨k.dp, 0, none⟩), .int .i64 i, .string d] wz fun e w' => ∃ E, e = .returned (.int .i64 E) ∧ StepG w w' base k g j M a b a (b ++ [(i, d)]) E := by
  refine (h.write hok hM hb i d hi).mono fun e w' h1 => ⟨_, h1.1, ?_⟩
  have h2 := h1.2
  obtain ⟨q1, q2⟩ := at_ok_W hok hm
  by_cases hc : cutAt g.d j
  · rw [at_W_cut hc hm] at h2
    exact .inl ⟨hc, by rw [hm]; exact at_E_cut hc, h2, q1 hc⟩
  · rw [at_W_go hc hm] at h2
    exact .inr ⟨hc, by rw [hm]; exact at_E_go hc, h2, q2 hc⟩
theorem step_B {w wz : World} {base j M : Nat} {k : Bk} {g : Pg} {a : List ByteArray} {b : List (Int × ByteArray)} (h : LayI w wz base k g (atD g.d j a b)) (hok : (atD g.d j a b).Ok M) (hM : M ≤ 900000) :
    Calls Tryz.prog 66 #[.pointer (some ⟨k.dp, 0, none⟩)] wz fun e w' => ∃ E, e = .returned (.int .i64 E) ∧ StepG w w' base k g j M a b (D5.laidF b a) [] E := by
  refine (h.bar hok hM).mono fun e w' h1 => ⟨_, h1.1, ?_⟩
  have h2 := h1.2
  obtain ⟨q1, q2⟩ := at_ok_B hok
  by_cases hc : cutAt g.d j
  · rw [at_B_cut hc] at h2
    exact .inl ⟨hc, at_E_cut hc, h2, q1 hc⟩
  · rw [at_B_go hc] at h2
    exact .inr ⟨hc, at_E_go hc, h2, q2 hc⟩
theorem StepG.gave {w w' : World} {base j M : Nat} {k : Bk} {g : Pg} {a a' : List ByteArray} {b b' : List (Int × ByteArray)} {E : Int} (h : StepG w w' base k g j M a b a' b' E) (hE : E ≠ 0) : cutAt g.d j ∧ E = 10 ∧ LayI w w' base k g (dnD g.d j a b) ∧ (dnD g.d j a b).Ok (M + 1) := by
  rcases h with h | h
  · exact h
  · exact absurd h.2.1 hE
theorem StepG.went {w w' : World} {base j M : Nat} {k : Bk} {g : Pg} {a a' : List ByteArray} {b b' : List (Int × ByteArray)} {E : Int} (h : StepG w w' base k g j M a b a' b' E) (hE : E = 0) : ¬ cutAt g.d j ∧ LayI w w' base k g (atD g.d (j + 1) a' b') ∧ (atD g.d (j + 1) a' b').Ok (M + 1) := by
  rcases h with h | h
  · have := h.2.1; omega
  · exact ⟨h.1, h.2.2⟩
theorem StepG.lay {w w' : World} {base j M : Nat} {k : Bk} {g : Pg} {a a' : List ByteArray} {b b' : List (Int × ByteArray)} {E : Int} (h : StepG w w' base k g j M a b a' b' E) : ∃ s, LayI w w' base k g s := by
  rcases h with h | h
  · exact ⟨_, h.2.2.1⟩
  · exact ⟨_, h.2.2.1⟩
theorem take_next {ws : List (Int × ByteArray)} {j : Nat} {x : Int × ByteArray} (h : ws[j]? = some x) : ws.take (j + 1) = ws.take j ++ [(x.1, x.2)] := by
  obtain ⟨hj, e⟩ := List.getElem?_eq_some_iff.1 h
  rw [List.take_succ_eq_append_getElem hj, e]
theorem gaveQ_intro {ds : List Deferred} {e0 : Nat} {W : World → Prop} {Q : Exit → Act → World → Prop} {c : List PanicEntry} {a : Act} {w : World} (h1 : c = [pan 10 false]) (h2 : a.defers = ds) (h3 : a.tmps.getD 4 undef = .pointer (some ⟨e0, 0, none⟩)) (h4 : W w) : gaveQ ds e0 W Q (.panic c) a w := ⟨h1, h2, h3, h4⟩
/-- Some cells stored in a block's midst, as the next operation of a drawn region. -/
theorem stM (T : TypeId) (cs : Array Value) (p v b x : Nat) {ops : Array Oper} {a : Act} {w : World} {K : Act → World → Prop} {Q : Exit → Act → World → Prop} {dst : Option Tmp} {ty : TypeId} {pos : String} {after : Array Edge} (ht : w.there b x cs.size) (hi : (Tryz.prog.info? T).map (·.size) = some cs.size) (ho : cs.all (·.oneCell') = true)
    (hx : a.eval (.tmp p) = .pointer (some ⟨b, x, none⟩)) (hy : a.eval (.tmp v) = .agg cs) (h : K (a.put dst undef) (w.setCells b x cs.toList)) :
    if Region.wanted ⟨dst, .store T (.tmp p) (.tmp v), ty, pos, after, none⟩ (yielded ops a.tmps) = true then Oper.wp Tryz.prog ⟨dst, .store T (.tmp p) (.tmp v), ty, pos, after, none⟩ a w K Q else K (a.put dst undef) w := by
  rw [if_pos (by rfl)]
  exact wp_store_mid T (.tmp p) (.tmp v) rfl b x cs hx hy ht hi ho h
def putAt (cs : Array Value) : Nat → List Value → Array Value
  | _, [] => cs
  | o, v :: r => putAt (cs.setIfInBounds o v) (o + 1) r
theorem blk_setCells {b : Nat} {t : TypeId} : ∀ (vs : List Value) (o : Nat) (w : World) (cs : Array Value), Blk w b t cs → Blk (w.setCells b o vs) b t (putAt cs o vs)
  | [], _, _, _, h => h
  | v :: r, o, w, cs, h => blk_setCells r (o + 1) _ _ (h.set o v)
theorem gb_setCells (b : Nat) : ∀ (vs : List Value) (o : Nat) (w : World), w.grownBy (w.setCells b o vs) (some b)
  | [], _, w => gb_refl w _
  | v :: r, o, w => gb_trans (gb_set w b o none v) (gb_setCells b r (o + 1) _)
theorem putAt_size : ∀ (vs : List Value) (o : Nat) (cs : Array Value), (putAt cs o vs).size = cs.size
  | [], _, _ => rfl
  | v :: r, o, cs => (putAt_size r (o + 1) _).trans (Array.size_setIfInBounds ..)
theorem getD_some {cs : Array Value} {i : Nat} (h : i < cs.size) : cs[i]? = some (cs.getD i undef) := by
  rw [Array.getD_eq_getD_getElem?, Array.getElem?_eq_getElem h]; rfl
theorem blk_there {w : World} {b : Nat} {t : TypeId} {cs : Array Value} (h : Blk w b t cs) {o n : Nat} (hn : o + n ≤ cs.size) : w.there b o n := by
  intro i hi
  have e : cs[o + i]? = some cs[o + i] := Array.getElem?_eq_getElem (by omega)
  exact ⟨by rw [h.cell (o + i) e]; rfl, h.free _⟩
theorem load_now {w : World} {b : Nat} {v : Value} {r : R8.Rt} {wh : Int} {tb mb : Nat} (h : Blk w b 81 (cmL v r wh tb mb).toArray) (hl : r.cs.length = 8) : (loadVar 71 ⟨b, 12, none⟩).run Tryz.prog w = .ok (.agg #[pp tb, pp mb]) w := by
  obtain ⟨_, _, c12, c13⟩ := cm_cells h hl
  refine run_loadVar_mid w b 12 71 [pp tb, pp mb] _ (fun j v hj => ?_) Tryz.underlying71 rfl (by rw [pl_info2]; rfl)
  match j, hj with
  | 0, hj => cases hj; exact c12
  | 1, hj => cases hj; exact c13
theorem rootC_one (r : R8.Rt) : (R8.rootC r).toArray.all (·.oneCell') = true := by
  rw [Array.all_eq_true_iff_forall_mem]
  intro v hv
  unfold R8.rootC at hv
  simp only [List.mem_toArray, List.mem_cons, List.mem_map] at hv
  rcases hv with rfl | rfl | ⟨z, _, rfl⟩ <;> rfl
theorem laid_pager (dp tb mb tb' mb' : Nat) (r r' : R8.Rt) (wh wh' : Int) (dead busy : Bool) (hl : r.cs.length = 8) (hl' : r'.cs.length = 8) :
    putAt ((putAt (pgL dp tb mb r wh dead busy).toArray 1 (R8.rootC r')).setIfInBounds 11 (.int .i64 wh')) 12 [pp tb', pp mb'] = (pgL dp tb' mb' r' wh' dead busy).toArray := by
  obtain ⟨e, n, cs⟩ := r
  obtain ⟨e', n', cs'⟩ := r'
  obtain ⟨c0, c1, c2, c3, c4, c5, c6, c7, rfl⟩ := eight hl
  obtain ⟨d0, d1, d2, d3, d4, d5, d6, d7, rfl⟩ := eight hl'
  simp [putAt, pgL, R8.rootC, pp]
/-- The world in which the walk begins: the boxes. -/
structure LayW (w w0 : World) (base : Nat) (k : Bk) (g : Pg) (C : Array Value) : Prop where
  g0 : w.grownBy w0 none
  hs : w0.heap.size = w.heap.size + 3
  bp : Blk w0 w.heap.size 25 #[pp k.p]
  bc : Blk w0 (w.heap.size + 1) 81 C
  be : Blk w0 (w.heap.size + 2) 33 #[.int .i64 0]
  pg : PgV w0 base k g
theorem LayW.make {w : World} {base : Nat} {k : Bk} {g : Pg} (C : Array Value) (h : PgV w base k g) : LayW w (((w.alloc (.cells #[.pointer (some ⟨k.p, 0, none⟩)] 25)).alloc (.cells C 81)).alloc (.cells #[.int .i64 0] 33)) base k g C := by
  have g1 := gb_alloc w (.cells #[.pointer (some ⟨k.p, 0, none⟩)] 25) none
  have b1 : Blk (w.alloc (.cells #[.pointer (some ⟨k.p, 0, none⟩)] 25)) w.heap.size 25 #[pp k.p] := Blk.mk w _ _
  have s1 : (w.alloc (.cells #[.pointer (some ⟨k.p, 0, none⟩)] 25)).heap.size = w.heap.size + 1 := World.size_alloc _ _
  generalize w.alloc (.cells #[.pointer (some ⟨k.p, 0, none⟩)] 25) = w1 at *
  have g2 := gb_alloc w1 (.cells C 81) none
  have b2 : Blk (w1.alloc (.cells C 81)) w1.heap.size 81 C := Blk.mk w1 _ _
  have s2 : (w1.alloc (.cells C 81)).heap.size = w1.heap.size + 1 := World.size_alloc _ _
  generalize w1.alloc (.cells C 81) = w2 at *
  have g3 := gb_alloc w2 (.cells #[.int .i64 0] 33) none
  have b3 : Blk (w2.alloc (.cells #[.int .i64 0] 33)) w2.heap.size 33 #[.int .i64 0] := Blk.mk w2 _ _
  have s3 : (w2.alloc (.cells #[.int .i64 0] 33)).heap.size = w2.heap.size + 1 := World.size_alloc _ _
  generalize w2.alloc (.cells #[.int .i64 0] 33) = w3 at *
  rw [s1] at b2 s2
  rw [s2] at b3 s3
  exact ⟨gb_trans (gb_trans g1 g2) g3, s3, (b1.keep0 g2).keep0 g3, b2.keep0 g3, b3, ((h.keep0 g1).keep0 g2).keep0 g3⟩
set_option maxRecDepth 100000 in
set_option maxHeartbeats 8000000 in
theorem lay_any {w : World} {base lo N L : Nat} {k : Bk} {g : Pg} {ws : List (Int × ByteArray)} {v : Value} {r : R8.Rt} {tt tb mb : Nat} {t : T9.TB} {m : List Bool} {rb : ByteArray} (h : LayA w base k g ws v lo r tt tb mb t m rb N) (hLn : ws.length = L) :
    Calls Tryz.prog 33 #[.pointer (some ⟨k.p, 0, none⟩), .agg (cmL v r (tt : Nat) tb mb).toArray] w (LayG w base k g ws r tt tb mb t m rb N) := by
  have hltG := h.pg.lt
  have hmf : ∀ (fn : Fn) (first cap : Array Value) (w : World), (Instr.makeFunc fn first cap).run Tryz.prog w = .ok (.func fn first cap) w := fun _ _ _ _ => rfl
  have fp : ∀ i, D5.footP k.dp k.vs k.vp k.bm i → i < w.heap.size := fun i hi => hltG i (.inr (.inl hi))
  have hrow := h.row
  obtain ⟨ao, cap, hv, -⟩ := Sl.of_owns h.row
  rw [hLn] at hv hrow
  subst hv
  obtain ⟨C, hC⟩ : ∃ C, (cmL (.slice ao L cap) r (tt : Nat) tb mb).toArray = C := ⟨_, rfl⟩
  have hC0 : C[0]? = some (.slice ao L cap) := by rw [← hC]; rfl
  have HA := Lib.hid h
  have HC := Lib.hid hC
  have HLn := Lib.hid hLn
  have HG := Lib.hid hltG
  have HF := Lib.hid fp
  have HR := Lib.hid hrow
  rw [hC]
  clear h hC hLn hltG fp hrow
  go_enter_defers Tryz.func33, Tryz.ntmps33
  refine Code.wp_mono (Q := gaveQ [layD w] (w.heap.size + 2) (LayP w base k g ws tt rb N) (bodyPostD Tryz.prog Tryz.f33 (LayG w base k g ws r tt tb mb t m rb N))) (fun e a wz hq => ?_) ?_
  · cases e with
    | panic c =>
      obtain ⟨rfl, hd, ht, hP⟩ := hq
      show Leaves _ _ _ _ _ _ _
      rw [hd]
      have hcut : cutAt g.d (ws.length + 2) := by obtain ⟨_, _, _, _, _, _, _, _, _, _, hc⟩ := hP; exact hc
      exact lay_gave hP HG.out (fun w' hf => .inl ⟨hcut, rfl, hf⟩) ht
    | _ => exact hq
  have hLb : L ≤ 900000 := by have := HA.out.big; rw [HLn.out] at this; omega
  go_wp2
  have HW := Lib.hid (LayW.make C HA.out.pg)
  generalize ((w.alloc (.cells #[.pointer (some ⟨k.p, 0, none⟩)] 25)).alloc (.cells C 81)).alloc (.cells #[.int .i64 0] 33) = w0 at *
  go_loopw [13] (fun i wz => ∃ j : Nat, j ≤ L ∧ i = .int .i64 (j : Nat) ∧ LayI w0 wz base k g (atD g.d j g.d.secs (ws.take j)) ∧ (atD g.d j g.d.secs (ws.take j)).Ok (N + j)) (fun i _ => L - (intOf i).toNat)
  case atStart =>
    have hz : atD g.d 0 g.d.secs (ws.take 0) = g.d := by
      have h1 := at_zero HA.out.off
      rw [HA.out.pend] at h1
      exact h1
    exact ⟨0, by omega, rfl, by rw [hz]; exact LayI.start HW.out.pg, by rw [hz]; exact HA.out.ok⟩
  case round =>
    obtain ⟨j, hj, rfl, hL, hOk⟩ := hrel
    have bp := hL.blk HW.out.bp (fun e => by have := HF.out _ e; omega)
    have hp0 := hL.cells.1
    by_cases hlt : j < L
    · have hrow := hL.row (HR.out.kept HW.out.g0 (by cases ao <;> simp [Value.ownBlock])) HA.out.rowf
      obtain ⟨a, cap', x, ev, hx, x0, x1⟩ := wr_cells hrow HLn.out (by rw [HLn.out]; exact hlt)
      injection ev with ev1 ev2 ev3
      subst ev1
      have HX := Lib.hid hx
      have HL := Lib.hid hL
      have HO := Lib.hid hOk
      have HB := Lib.hid bp
      clear hL hOk hrow hx ev3
      go_wp2
      have gu := gb_alloc wr (.cells #[.int .i64 x.1, .string x.2] 105) none
      have b6 : Blk (wr.alloc (.cells #[.int .i64 x.1, .string x.2] 105)) wr.heap.size 105 #[.int .i64 x.1, .string x.2] := Blk.mk wr _ _
      generalize wr.alloc (.cells #[.int .i64 x.1, .string x.2] 105) = u at *
      have gd := gb_trans gu (gb_drew u none)
      have b6 := b6.keep0 (gb_drew u none)
      obtain ⟨k1, f1, f2, hI, hlt6, htr⟩ := HL.out.again gd
      have hmem : x ∈ ws := List.mem_of_getElem? HX.out
      have hmay : D5.mayW (atD g.d j g.d.secs (ws.take j)) x.1 x.2 = true := by obtain ⟨mm, hw⟩ := HA.out.wrs; exact at_may hw hmem
      have hi64 : In64 x.1 := by
        obtain ⟨mm, hw⟩ := HA.out.wrs
        obtain ⟨q, e, _, h2, _⟩ := hw.each x hmem
        have := HA.out.ok.len
        rw [e]; constructor <;> omega
      have hW := step_W hI HO.out (by have := HA.out.big; rw [HLn.out] at this; omega) (Nat.le_trans HA.out.bsz (Nat.le_trans HW.out.g0.size (Nat.le_trans (by obtain ⟨_, _, _, _, _, _, _, hk⟩ := HL.out; exact hk.size) gd.size))) hi64 hmay
      rw [f2] at hW
      have hkp1 : u.drew.cell? ⟨k.p, 0, none⟩ = some (.pointer (some ⟨k.dp, 0, none⟩)) := by have := hI.cells.1; rw [f1, f2] at this; exact this
      have hb0 := (HB.out.keep0 gd).cell 0 rfl
      refine wp_region_held_drew (S := fun w' => w'.cell? ⟨w.heap.size, 0, none⟩ = some (.pointer (some ⟨k.p, 0, none⟩)) ∧ w'.cell? ⟨k.p, 0, none⟩ = some (.pointer (some ⟨k.dp, 0, none⟩)) ∧ Blk w' wr.heap.size 105 #[.int .i64 x.1, .string x.2]) (by kernel_rfl) ⟨hb0, hkp1, b6⟩ (fun hHeld => ?_)
      refine wpAnyH_take (i := 0) (v := ?_) (List.getElem?_toArray.trans rfl) (by kernel_rfl) (by kernel_rfl) (by kernel_rfl) (fun _ _ _ h => gaveQ_put (Q := bodyPostD Tryz.prog Tryz.f33 (LayG w base k g ws r tt tb mb t m rb N)) (by simp) h) (Or.inl ⟨by rfl, ?_⟩) hHeld ?_
      rotate_left
      · intro w' hSw; have q1 := hSw.1; have q2 := hSw.2.1; have q3 := hSw.2.2.cell 0 rfl; have q4 := hSw.2.2.cell 1 rfl; go_simp; try with_reducible rfl
      try simp only [Act.put, List.setIfInBounds_toArray, List.set_cons_zero, List.set_cons_succ]
      refine wpAnyH_take (i := 1) (v := ?_) (List.getElem?_toArray.trans rfl) (by kernel_rfl) (by kernel_rfl) (by kernel_rfl) (fun _ _ _ h => gaveQ_put (Q := bodyPostD Tryz.prog Tryz.f33 (LayG w base k g ws r tt tb mb t m rb N)) (by simp) h) (Or.inl ⟨by rfl, ?_⟩) hHeld ?_
      rotate_left
      · intro w' hSw; have q1 := hSw.1; have q2 := hSw.2.1; have q3 := hSw.2.2.cell 0 rfl; have q4 := hSw.2.2.cell 1 rfl; go_simp; try with_reducible rfl
      try simp only [Act.put, List.setIfInBounds_toArray, List.set_cons_zero, List.set_cons_succ]
      refine wpAnyH_take (i := 2) (v := ?_) (List.getElem?_toArray.trans rfl) (by kernel_rfl) (by kernel_rfl) (by kernel_rfl) (fun _ _ _ h => gaveQ_put (Q := bodyPostD Tryz.prog Tryz.f33 (LayG w base k g ws r tt tb mb t m rb N)) (by simp) h) (Or.inl ⟨by rfl, ?_⟩) hHeld ?_
      rotate_left
      · intro w' hSw; have q1 := hSw.1; have q2 := hSw.2.1; have q3 := hSw.2.2.cell 0 rfl; have q4 := hSw.2.2.cell 1 rfl; go_simp; try with_reducible rfl
      try simp only [Act.put, List.setIfInBounds_toArray, List.set_cons_zero, List.set_cons_succ]
      refine wpAnyH_take (i := 3) (v := ?_) (List.getElem?_toArray.trans rfl) (by kernel_rfl) (by kernel_rfl) (by kernel_rfl) (fun _ _ _ h => gaveQ_put (Q := bodyPostD Tryz.prog Tryz.f33 (LayG w base k g ws r tt tb mb t m rb N)) (by simp) h) (Or.inl ⟨by rfl, ?_⟩) hHeld ?_
      rotate_left
      · intro w' hSw; have q1 := hSw.1; have q2 := hSw.2.1; have q3 := hSw.2.2.cell 0 rfl; have q4 := hSw.2.2.cell 1 rfl; go_simp; try with_reducible rfl
      try simp only [Act.put, List.setIfInBounds_toArray, List.set_cons_zero, List.set_cons_succ]
      refine wpAnyH_take (i := 4) (v := ?_) (List.getElem?_toArray.trans rfl) (by kernel_rfl) (by kernel_rfl) (by kernel_rfl) (fun _ _ _ h => gaveQ_put (Q := bodyPostD Tryz.prog Tryz.f33 (LayG w base k g ws r tt tb mb t m rb N)) (by simp) h) (Or.inl ⟨by rfl, ?_⟩) hHeld ?_
      rotate_left
      · intro w' hSw; have q1 := hSw.1; have q2 := hSw.2.1; have q3 := hSw.2.2.cell 0 rfl; have q4 := hSw.2.2.cell 1 rfl; go_simp; try with_reducible rfl
      try simp only [Act.put, List.setIfInBounds_toArray, List.set_cons_zero, List.set_cons_succ]
      refine wpAnyH_take (i := 5) (v := ?_) (List.getElem?_toArray.trans rfl) (by kernel_rfl) (by kernel_rfl) (by kernel_rfl) (fun _ _ _ h => gaveQ_put (Q := bodyPostD Tryz.prog Tryz.f33 (LayG w base k g ws r tt tb mb t m rb N)) (by simp) h) (Or.inl ⟨by rfl, ?_⟩) hHeld ?_
      rotate_left
      · intro w' hSw; have q1 := hSw.1; have q2 := hSw.2.1; have q3 := hSw.2.2.cell 0 rfl; have q4 := hSw.2.2.cell 1 rfl; go_simp; try with_reducible rfl
      try simp only [Act.put, List.setIfInBounds_toArray, List.set_cons_zero, List.set_cons_succ]
      refine wpAnyH_take (i := 6) (v := ?_) (List.getElem?_toArray.trans rfl) (by kernel_rfl) (by kernel_rfl) (by kernel_rfl) (fun _ _ _ h => gaveQ_put (Q := bodyPostD Tryz.prog Tryz.f33 (LayG w base k g ws r tt tb mb t m rb N)) (by simp) h) (Or.inl ⟨by rfl, ?_⟩) hHeld ?_
      rotate_left
      · intro w' hSw; have q1 := hSw.1; have q2 := hSw.2.1; have q3 := hSw.2.2.cell 0 rfl; have q4 := hSw.2.2.cell 1 rfl; go_simp; try with_reducible rfl
      try simp only [Act.put, List.setIfInBounds_toArray, List.set_cons_zero, List.set_cons_succ]
      refine wpAnyH_take (i := 7) (v := ?_) (List.getElem?_toArray.trans rfl) (by kernel_rfl) (by kernel_rfl) (by kernel_rfl) (fun _ _ _ h => gaveQ_put (Q := bodyPostD Tryz.prog Tryz.f33 (LayG w base k g ws r tt tb mb t m rb N)) (by simp) h) (Or.inl ⟨by rfl, ?_⟩) hHeld ?_
      rotate_left
      · intro w' hSw; have q1 := hSw.1; have q2 := hSw.2.1; have q3 := hSw.2.2.cell 0 rfl; have q4 := hSw.2.2.cell 1 rfl; go_simp; try with_reducible rfl
      try simp only [Act.put, List.setIfInBounds_toArray, List.set_cons_zero, List.set_cons_succ]
      refine wpAnyH_ready (rs := [8]) (by kernel_rfl) (by simp) ?_
      refine AllReadyH.cons (List.getElem?_toArray.trans rfl) (fun K hK => ?_) AllReadyH.nil
      go_simp
      go_at_call 65
      (with_reducible refine hW.mono ?_)
      rintro e w2 ⟨E, rfl, hS⟩
      obtain ⟨s2, hs2⟩ := hS.lay
      have hT := htr _ _ hs2
      have hS2 : w2.cell? ⟨w.heap.size, 0, none⟩ = some (.pointer (some ⟨k.p, 0, none⟩)) ∧ w2.cell? ⟨k.p, 0, none⟩ = some (.pointer (some ⟨k.dp, 0, none⟩)) ∧ Blk w2 wr.heap.size 105 #[.int .i64 x.1, .string x.2] := ⟨(hT.blk HW.out.bp (fun e => by have := HF.out _ e; omega)).cell 0 rfl, hT.cells.1, hs2.blk b6 (fun e => by have := hlt6 _ e; omega)⟩
      refine hK.out _ _ (hS2) (fun hHeld => ?_)
      clear hK K
      try simp only [Act.put, List.setIfInBounds_toArray, List.set_cons_zero, List.set_cons_succ]
      refine wpAnyH_ready (rs := [9]) (by kernel_rfl) (by simp) ?_
      refine AllReadyH.cons (List.getElem?_toArray.trans rfl) (fun K hK => ?_) AllReadyH.nil
      go_simp
      go_at_call 64
      (with_reducible refine (must_any E _).mono ?_)
      rintro e w3 ⟨rfl, hE⟩
      rcases hE with ⟨hE, rfl⟩ | ⟨hE, rfl⟩
      rotate_left
      obtain ⟨hc, hE10, hL2, hO2⟩ := hS.gave hE
      have hce : [pan E false] = [pan 10 false] := by rw [hE10]
      show gaveQ [layD w] (w.heap.size + 2) (LayP w base k g ws tt rb N) (bodyPostD Tryz.prog Tryz.f33 (LayG w base k g ws r tt tb mb t m rb N)) (.panic [pan E false]) _ w2
      refine gaveQ_intro (ds := [layD w]) (e0 := w.heap.size + 2) (W := LayP w base k g ws tt rb N) hce rfl rfl ⟨w0, _, HW.out.g0, HW.out.hs, HW.out.bp, HW.out.be, htr _ _ hL2, .inl ⟨rfl, fun x hx => List.mem_of_mem_take hx⟩, rfl, hO2.more (by rw [HLn.out]; omega), cut_more hc (by rw [HLn.out]; omega)⟩
      refine hK.out _ _ (hS2) (fun hHeld => ?_)
      clear hK K
      try simp only [Act.put, List.setIfInBounds_toArray, List.set_cons_zero, List.set_cons_succ]
      refine wpAnyH_done (by kernel_rfl) ?_ _
      obtain ⟨hnc, hL2, hO2⟩ := hS.went hE
      rw [← take_next HX.out] at hL2 hO2
      have HL2 := Lib.hid (htr _ _ hL2)
      have HO2 := Lib.hid hO2
      clear hL2 hO2 hS hS2 hT hs2 hI htr hW
      go_wp2
      go_roundw
      case rel => exact ⟨j + 1, by omega, by go_num, HL2.out, HO2.out⟩
      case measure => simp [intOf]; omega
    · obtain rfl : j = L := by omega
      have htk : ws.take j = ws := List.take_of_length_le (by rw [HLn.out]; exact Nat.le_refl _)
      rw [htk] at hL hOk
      have hb0 : wr.cell? ⟨w.heap.size, 0, none⟩ = some (.pointer (some ⟨k.p, 0, none⟩)) := bp.cell 0 rfl
      have HB1 := Lib.hid (step_B hL hOk (by have := HA.out.big; rw [HLn.out] at this; omega))
      clear hL hOk bp htk
      have hgood := HA.out.good
      have hfit : R8.Fit r := ⟨hgood.2.1, hgood.2.2, by have := hgood.1.2.1; have := hgood.1.2.2.1; constructor <;> omega, fun i hi => by
        have h1 := hgood.1.2.2.2 i hi
        have h2 := hgood.1.2.2.1
        rcases h1 with h1 | ⟨h1, h3, _⟩
        · rw [h1]; constructor <;> omega
        · constructor <;> omega⟩
      have hput : ∀ W, R8.Pl W → Calls Tryz.prog 67 #[R8.RV r] W fun e w' => e = .returned (.tuple #[.string rb, .int .i64 0]) ∧ W.grownBy w' none := fun W hW => (R8.put_any r W hW hfit).mono fun e w' h => by
        obtain ⟨t', rfl, ht, hg⟩ := h
        have e1 : R8.putC r = 0 := if_pos hgood.1
        have e2 : R8.putS r = R8.putL r := if_pos hgood.1
        rw [e2, ← HA.out.rbs] at ht
        rw [e1, ba_ext ht]
        exact ⟨rfl, hg⟩
      have hpl : ∀ {W : World} {s : D5.St}, LayI w0 W base k g s → R8.Pl W := fun hL => by
        obtain ⟨_, _, _, _, _, _, _, hk⟩ := hL
        exact pl_kp (HA.out.pl.keep0 HW.out.g0) hk (fun i hi => Nat.le_trans HA.out.b5 (pdv_ge HA.out.pg.disk i hi))
      have HPut := Lib.hid hput
      clear hput hfit hgood
      go_wp2_with (first
        | (go_at_call 66; (with_reducible refine HB1.out.mono ?_); rintro e w1 ⟨E1, rfl, hS⟩; have HS1 := Lib.hid hS; clear hS)
        | (go_at_call 64; (with_reducible refine (must_any E1 _).mono ?_); rintro e w2 ⟨rfl, hE⟩; rcases hE with ⟨hE, rfl⟩ | ⟨hE, rfl⟩; rotate_left; (obtain ⟨hc, hE10, hL2, hO2⟩ := HS1.out.gave hE; have hce : [pan E1 false] = [pan 10 false] := by rw [hE10]); refine gaveQ_intro (ds := [layD w]) (e0 := w.heap.size + 2) (W := LayP w base k g ws tt rb N) hce rfl rfl ⟨w0, _, HW.out.g0, HW.out.hs, HW.out.bp, HW.out.be, hL2, .inl ⟨rfl, fun x hx => hx⟩, rfl, hO2.more (by rw [HLn.out]; omega), cut_more hc (by rw [HLn.out]; omega)⟩; obtain ⟨hnc1, hL1, hO1⟩ := HS1.out.went hE; have bc := hL1.blk HW.out.bc (fun e => by have := HF.out _ e; omega); rw [← HC.out] at bc; have hlr := load_root (cm_range bc HA.out.rlen) HA.out.rlen; have HL1 := Lib.hid hL1; have HO1 := Lib.hid hO1; have HBC := Lib.hid bc; clear hL1 hO1 bc)
        | (refine M6.wpList_load_at rfl 79 (.tmp 35) rfl ⟨w.heap.size + 1, 1, none⟩ rfl _ hlr ?_)
        | (go_at_call 67; (with_reducible refine (HPut.out _ (hpl HL1.out)).mono ?_); rintro e w3 ⟨rfl, g3⟩)
        | (go_at_call 64; (with_reducible refine (must_ok _).mono ?_); rintro e w4 ⟨rfl, rfl⟩)
        | fail)
      have hL3 := HL1.out.keep0 g3
      have hb0 : w3.cell? ⟨w.heap.size, 0, none⟩ = some (.pointer (some ⟨k.p, 0, none⟩)) := (hL3.blk HW.out.bp (fun e => by have := HF.out _ e; omega)).cell 0 rfl
      have bc3 := HBC.out.keep0 g3
      have c11 := (cm_cells bc3 HA.out.rlen).2.1
      have hp0 := hL3.cells.1
      have hO1 := HO1.out
      have hmay : D5.mayW (atD g.d (j + 1) (D5.laidF ws g.d.secs) []) (tt : Nat) rb = true := by
        have h1 : rb.size = 256 := by rw [ba_size HA.out.rbs]; exact R8.putL_length r HA.out.rlen
        have h2 : (D5.laidF ws g.d.secs).length = g.d.secs.length := D5.laidF_length _ _
        have h3 := HA.out.n2
        have h4 := HA.out.tt
        unfold D5.mayW D5.hasF
        rw [h1]
        simp only [atD, h2]
        simp
        omega
      have hi64 : In64 ((tt : Nat) : Int) := by have := HA.out.tt; constructor <;> omega
      have hbz : base ≤ w0.heap.size := Nat.le_trans HA.out.bsz HW.out.g0.size
      have hW := step_W (hL3.keep0 (gb_drew w3 none)) hO1 (by have := HA.out.big; rw [HLn.out] at this; omega) hbz hi64 hmay
      clear hO1
      refine wp_region_held_drew (S := fun w' => w'.cell? ⟨w.heap.size, 0, none⟩ = some (.pointer (some ⟨k.p, 0, none⟩)) ∧ w'.cell? ⟨k.p, 0, none⟩ = some (.pointer (some ⟨k.dp, 0, none⟩)) ∧ w'.cell? ⟨w.heap.size + 1, 11, none⟩ = some (.int .i64 (tt : Nat))) (by kernel_rfl) ⟨hb0, hp0, c11⟩ (fun hHeld => ?_)
      refine wpAnyH_take (i := 0) (v := ?_) (List.getElem?_toArray.trans rfl) (by kernel_rfl) (by kernel_rfl) (by kernel_rfl) (fun _ _ _ h => gaveQ_put (Q := bodyPostD Tryz.prog Tryz.f33 (LayG w base k g ws r tt tb mb t m rb N)) (by simp) h) (Or.inl ⟨by rfl, ?_⟩) hHeld ?_
      rotate_left
      · intro w' hSw; have q1 := hSw.1; have q2 := hSw.2.1; have q3 := hSw.2.2; go_simp; try with_reducible rfl
      try simp only [Act.put, List.setIfInBounds_toArray, List.set_cons_zero, List.set_cons_succ]
      refine wpAnyH_take (i := 1) (v := ?_) (List.getElem?_toArray.trans rfl) (by kernel_rfl) (by kernel_rfl) (by kernel_rfl) (fun _ _ _ h => gaveQ_put (Q := bodyPostD Tryz.prog Tryz.f33 (LayG w base k g ws r tt tb mb t m rb N)) (by simp) h) (Or.inl ⟨by rfl, ?_⟩) hHeld ?_
      rotate_left
      · intro w' hSw; have q1 := hSw.1; have q2 := hSw.2.1; have q3 := hSw.2.2; go_simp; try with_reducible rfl
      try simp only [Act.put, List.setIfInBounds_toArray, List.set_cons_zero, List.set_cons_succ]
      refine wpAnyH_take (i := 2) (v := ?_) (List.getElem?_toArray.trans rfl) (by kernel_rfl) (by kernel_rfl) (by kernel_rfl) (fun _ _ _ h => gaveQ_put (Q := bodyPostD Tryz.prog Tryz.f33 (LayG w base k g ws r tt tb mb t m rb N)) (by simp) h) (Or.inl ⟨by rfl, ?_⟩) hHeld ?_
      rotate_left
      · intro w' hSw; have q1 := hSw.1; have q2 := hSw.2.1; have q3 := hSw.2.2; go_simp; try with_reducible rfl
      try simp only [Act.put, List.setIfInBounds_toArray, List.set_cons_zero, List.set_cons_succ]
      refine wpAnyH_take (i := 3) (v := ?_) (List.getElem?_toArray.trans rfl) (by kernel_rfl) (by kernel_rfl) (by kernel_rfl) (fun _ _ _ h => gaveQ_put (Q := bodyPostD Tryz.prog Tryz.f33 (LayG w base k g ws r tt tb mb t m rb N)) (by simp) h) (Or.inl ⟨by rfl, ?_⟩) hHeld ?_
      rotate_left
      · intro w' hSw; have q1 := hSw.1; have q2 := hSw.2.1; have q3 := hSw.2.2; go_simp; try with_reducible rfl
      try simp only [Act.put, List.setIfInBounds_toArray, List.set_cons_zero, List.set_cons_succ]
      refine wpAnyH_take (i := 4) (v := ?_) (List.getElem?_toArray.trans rfl) (by kernel_rfl) (by kernel_rfl) (by kernel_rfl) (fun _ _ _ h => gaveQ_put (Q := bodyPostD Tryz.prog Tryz.f33 (LayG w base k g ws r tt tb mb t m rb N)) (by simp) h) (Or.inl ⟨by rfl, ?_⟩) hHeld ?_
      rotate_left
      · intro w' hSw; have q1 := hSw.1; have q2 := hSw.2.1; have q3 := hSw.2.2; go_simp; try with_reducible rfl
      try simp only [Act.put, List.setIfInBounds_toArray, List.set_cons_zero, List.set_cons_succ]
      refine wpAnyH_take (i := 5) (v := ?_) (List.getElem?_toArray.trans rfl) (by kernel_rfl) (by kernel_rfl) (by kernel_rfl) (fun _ _ _ h => gaveQ_put (Q := bodyPostD Tryz.prog Tryz.f33 (LayG w base k g ws r tt tb mb t m rb N)) (by simp) h) (Or.inl ⟨by rfl, ?_⟩) hHeld ?_
      rotate_left
      · intro w' hSw; have q1 := hSw.1; have q2 := hSw.2.1; have q3 := hSw.2.2; go_simp; try with_reducible rfl
      try simp only [Act.put, List.setIfInBounds_toArray, List.set_cons_zero, List.set_cons_succ]
      refine wpAnyH_take (i := 6) (v := ?_) (List.getElem?_toArray.trans rfl) (by kernel_rfl) (by kernel_rfl) (by kernel_rfl) (fun _ _ _ h => gaveQ_put (Q := bodyPostD Tryz.prog Tryz.f33 (LayG w base k g ws r tt tb mb t m rb N)) (by simp) h) (Or.inl ⟨by rfl, ?_⟩) hHeld ?_
      rotate_left
      · intro w' hSw; have q1 := hSw.1; have q2 := hSw.2.1; have q3 := hSw.2.2; go_simp; try with_reducible rfl
      try simp only [Act.put, List.setIfInBounds_toArray, List.set_cons_zero, List.set_cons_succ]
      refine wpAnyH_ready (rs := [7]) (by kernel_rfl) (by simp) ?_
      refine AllReadyH.cons (List.getElem?_toArray.trans rfl) (fun K hK => ?_) AllReadyH.nil
      go_simp
      go_at_call 65
      (with_reducible refine hW.mono ?_)
      rintro e w5 ⟨E, rfl, hS⟩
      obtain ⟨s2, hT⟩ := hS.lay
      have bc5 := hT.blk HW.out.bc (fun e => by have := HF.out _ e; omega)
      rw [← HC.out] at bc5
      have hS2 : w5.cell? ⟨w.heap.size, 0, none⟩ = some (.pointer (some ⟨k.p, 0, none⟩)) ∧ w5.cell? ⟨k.p, 0, none⟩ = some (.pointer (some ⟨k.dp, 0, none⟩)) ∧ w5.cell? ⟨w.heap.size + 1, 11, none⟩ = some (.int .i64 (tt : Nat)) := ⟨(hT.blk HW.out.bp (fun e => by have := HF.out _ e; omega)).cell 0 rfl, hT.cells.1, (cm_cells bc5 HA.out.rlen).2.1⟩
      refine hK.out _ _ (hS2) (fun hHeld => ?_)
      clear hK K
      try simp only [Act.put, List.setIfInBounds_toArray, List.set_cons_zero, List.set_cons_succ]
      refine wpAnyH_ready (rs := [8]) (by kernel_rfl) (by simp) ?_
      refine AllReadyH.cons (List.getElem?_toArray.trans rfl) (fun K hK => ?_) AllReadyH.nil
      go_simp
      go_at_call 64
      (with_reducible refine (must_any E _).mono ?_)
      rintro e w6 ⟨rfl, hE⟩
      rcases hE with ⟨hE, rfl⟩ | ⟨hE, rfl⟩
      rotate_left
      obtain ⟨hc, hE10, hL2, hO2⟩ := hS.gave hE
      have hce : [pan E false] = [pan 10 false] := by rw [hE10]
      show gaveQ [layD w] (w.heap.size + 2) (LayP w base k g ws tt rb N) (bodyPostD Tryz.prog Tryz.f33 (LayG w base k g ws r tt tb mb t m rb N)) (.panic [pan E false]) _ w5
      refine gaveQ_intro (ds := [layD w]) (e0 := w.heap.size + 2) (W := LayP w base k g ws tt rb N) hce rfl rfl ⟨w0, _, HW.out.g0, HW.out.hs, HW.out.bp, HW.out.be, hL2, .inr ⟨rfl, .inl rfl⟩, rfl, hO2.more (by rw [HLn.out]; omega), cut_more hc (by rw [HLn.out]; omega)⟩
      refine hK.out _ _ (hS2) (fun hHeld => ?_)
      clear hK K
      try simp only [Act.put, List.setIfInBounds_toArray, List.set_cons_zero, List.set_cons_succ]
      refine wpAnyH_done (by kernel_rfl) ?_ _
      obtain ⟨hnc, hL2, hO2⟩ := hS.went hE
      have HB1 := Lib.hid (step_B hL2 hO2 (by have := HA.out.big; rw [HLn.out] at this; omega))
      have hb0 := hS2.1
      have hp0 := hS2.2.1
      clear hS hT hW hlr bc3 hL3 c11 hS2
      go_wp2_with (first
        | (go_at_call 66; (with_reducible refine HB1.out.mono ?_); rintro e w1 ⟨E1, rfl, hS⟩; have HS1 := Lib.hid hS; clear hS)
        | (go_at_call 64; (with_reducible refine (must_any E1 _).mono ?_); rintro e w2 ⟨rfl, hE⟩; rcases hE with ⟨hE, rfl⟩ | ⟨hE, rfl⟩; rotate_left; (obtain ⟨hc, hE10, hL2, hO2⟩ := HS1.out.gave hE; have hce : [pan E1 false] = [pan 10 false] := by rw [hE10]); refine gaveQ_intro (ds := [layD w]) (e0 := w.heap.size + 2) (W := LayP w base k g ws tt rb N) hce rfl rfl ⟨w0, _, HW.out.g0, HW.out.hs, HW.out.bp, HW.out.be, hL2, .inr ⟨rfl, .inr rfl⟩, rfl, hO2.more (by rw [HLn.out]; omega), cut_more hc (by rw [HLn.out]; omega)⟩)
        | fail)
      obtain ⟨hnc2, hL3, hO3⟩ := HS1.out.went hE
      have bp3 := hL3.blk HW.out.bp (fun e => by have := HF.out _ e; omega)
      have bc3 := hL3.blk HW.out.bc (fun e => by have := HF.out _ e; omega)
      have be3 := hL3.blk HW.out.be (fun e => by have := HF.out _ e; omega)
      rw [← HC.out] at bc3
      obtain ⟨k', e1, e2, e3, e4, hp, hf, hk⟩ := hL3
      have bP := hp.blk
      rw [e1] at bP
      have hkp : k.p < w.heap.size := HG.out _ (.inl rfl)
      have gd := gb_drew w1 none
      have bp3 := bp3.keep0 gd
      have bc3 := bc3.keep0 gd
      have be3 := be3.keep0 gd
      have bP := bP.keep0 gd
      have hrl := HA.out.rlen
      have hP0 : (pgL k'.dp k'.tb k'.mb g.r g.wh g.dead g.busy).toArray.size = 16 := by
        have := R8.rootC_length g.r HA.out.pg.len
        simp [pgL, this]
      have HP := Lib.hid hp
      have HK := Lib.hid hk
      have HFt := Lib.hid hf
      have HO3 := Lib.hid hO3
      clear hp hk hf hO3 hL2 hO2 hb0 hp0
      have hi1 : (Tryz.prog.info? 79).map (·.size) = some (R8.rootC r).toArray.size := by rw [root_info10, List.size_toArray, R8.rootC_length r hrl]
      have hi3 := pl_info (pp tb) (pp mb)
      have hone : (#[pp tb, pp mb] : Array Value).all (·.oneCell') = true := pl_one _ _
      have ht1 : w1.drew.there k.p 1 (R8.rootC r).toArray.size := blk_there bP (by rw [List.size_toArray, R8.rootC_length r hrl, hP0]; omega)
      have g4 := gb_setCells k.p (R8.rootC r).toArray.toList 1 w1.drew
      have bP4 := blk_setCells (R8.rootC r).toArray.toList 1 _ _ bP
      have bp4 := bp3.keep g4 (ne_some (by omega))
      have bc4 := bc3.keep g4 (ne_some (by omega))
      have be4 := be3.keep g4 (ne_some (by omega))
      have g5 := gb_set (w1.drew.setCells k.p 1 (R8.rootC r).toArray.toList) k.p 11 none (.int .i64 (tt : Nat))
      have bP5 := bP4.set 11 (.int .i64 (tt : Nat))
      have bp5 := bp4.keep g5 (ne_some (by omega))
      have bc5 := bc4.keep g5 (ne_some (by omega))
      have be5 := be4.keep g5 (ne_some (by omega))
      have f11 := bP4.free 11
      have g6 := gb_setCells k.p (#[pp tb, pp mb] : Array Value).toList 12 ((w1.drew.setCells k.p 1 (R8.rootC r).toArray.toList).setCell ⟨k.p, 11, none⟩ (.int .i64 (tt : Nat)))
      have bP6 := blk_setCells (#[pp tb, pp mb] : Array Value).toList 12 _ _ bP5
      have bp6 := bp5.keep g6 (ne_some (by omega))
      have bc6 := bc5.keep g6 (ne_some (by omega))
      have be6 := be5.keep g6 (ne_some (by omega))
      have hsz5 : ((putAt (pgL k'.dp k'.tb k'.mb g.r g.wh g.dead g.busy).toArray 1 (R8.rootC r).toArray.toList).setIfInBounds 11 (.int .i64 (tt : Nat))).size = 16 := by
        rw [Array.size_setIfInBounds, putAt_size, hP0]
      have ht3 : ((w1.drew.setCells k.p 1 (R8.rootC r).toArray.toList).setCell ⟨k.p, 11, none⟩ (.int .i64 (tt : Nat))).there k.p 12 (#[pp tb, pp mb] : Array Value).size := blk_there bP5 (by rw [hsz5]; simp)
      have c11 : (w1.drew.setCells k.p 1 (R8.rootC r).toArray.toList).cell? ⟨k.p, 11, none⟩ = some ((putAt (pgL k'.dp k'.tb k'.mb g.r g.wh g.dead g.busy).toArray 1 (R8.rootC r).toArray.toList).getD 11 undef) := bP4.cell 11 (getD_some (by rw [putAt_size, hP0]; decide))
      refine wp_region_held_drew (S := fun w' => w'.cell? ⟨w.heap.size, 0, none⟩ = some (.pointer (some ⟨k.p, 0, none⟩)) ∧ Blk w' (w.heap.size + 1) 81 (cmL (.slice ao j cap) r (tt : Nat) tb mb).toArray) (by kernel_rfl) ⟨bp3.cell 0 rfl, bc3⟩ (fun hHeld => ?_)
      refine wpAnyH_take (i := 0) (v := ?_) (List.getElem?_toArray.trans rfl) (by kernel_rfl) (by kernel_rfl) (by kernel_rfl) (fun _ _ _ h => gaveQ_put (Q := bodyPostD Tryz.prog Tryz.f33 (LayG w base k g ws r tt tb mb t m rb N)) (by simp) h) (Or.inl ⟨by rfl, ?_⟩) hHeld ?_
      rotate_left
      · intro w' hSw; have q1 := hSw.1; have q2 := (cm_cells hSw.2 hrl).2.1; go_simp; try with_reducible rfl
      try simp only [Act.put, List.setIfInBounds_toArray, List.set_cons_zero, List.set_cons_succ]
      refine wpAnyH_take (i := 1) (v := ?_) (List.getElem?_toArray.trans rfl) (by kernel_rfl) (by kernel_rfl) (by kernel_rfl) (fun _ _ _ h => gaveQ_put (Q := bodyPostD Tryz.prog Tryz.f33 (LayG w base k g ws r tt tb mb t m rb N)) (by simp) h) (Or.inl ⟨by rfl, ?_⟩) hHeld ?_
      rotate_left
      · intro w' hSw; have q1 := hSw.1; have q2 := (cm_cells hSw.2 hrl).2.1; go_simp; try with_reducible rfl
      try simp only [Act.put, List.setIfInBounds_toArray, List.set_cons_zero, List.set_cons_succ]
      refine wpAnyH_take (i := 2) (v := ?_) (List.getElem?_toArray.trans rfl) (by kernel_rfl) (by kernel_rfl) (by kernel_rfl) (fun _ _ _ h => gaveQ_put (Q := bodyPostD Tryz.prog Tryz.f33 (LayG w base k g ws r tt tb mb t m rb N)) (by simp) h) (Or.inl ⟨by rfl, ?_⟩) hHeld ?_
      rotate_left
      · intro w' hSw; have q1 := hSw.1; have q2 := (cm_cells hSw.2 hrl).2.1; go_simp; try with_reducible rfl
      try simp only [Act.put, List.setIfInBounds_toArray, List.set_cons_zero, List.set_cons_succ]
      refine wpAnyH_take (i := 3) (v := ?_) (List.getElem?_toArray.trans rfl) (by kernel_rfl) (by kernel_rfl) (by kernel_rfl) (fun _ _ _ h => gaveQ_put (Q := bodyPostD Tryz.prog Tryz.f33 (LayG w base k g ws r tt tb mb t m rb N)) (by simp) h) (Or.inl ⟨by rfl, ?_⟩) hHeld ?_
      rotate_left
      · intro w' hSw; have q1 := hSw.1; have q2 := (cm_cells hSw.2 hrl).2.1; go_simp; try with_reducible rfl
      try simp only [Act.put, List.setIfInBounds_toArray, List.set_cons_zero, List.set_cons_succ]
      refine wpAnyH_take (i := 4) (v := R8.RV r) (List.getElem?_toArray.trans rfl) (by kernel_rfl) (by kernel_rfl) (by kernel_rfl) (fun _ _ _ h => gaveQ_put (Q := bodyPostD Tryz.prog Tryz.f33 (LayG w base k g ws r tt tb mb t m rb N)) (by simp) h) (Or.inl ⟨by rfl, ?_⟩) hHeld ?_
      · intro w' hSw; have q1 := hSw.1; have q2 := (cm_cells hSw.2 hrl).2.1; exact T9.exec_load _ _ rfl ⟨w.heap.size + 1, 1, none⟩ rfl _ (load_root (cm_range hSw.2 hrl) hrl)
      try simp only [Act.put, List.setIfInBounds_toArray, List.set_cons_zero, List.set_cons_succ]
      refine wpAnyH_take (i := 5) (v := ?_) (List.getElem?_toArray.trans rfl) (by kernel_rfl) (by kernel_rfl) (by kernel_rfl) (fun _ _ _ h => gaveQ_put (Q := bodyPostD Tryz.prog Tryz.f33 (LayG w base k g ws r tt tb mb t m rb N)) (by simp) h) (Or.inl ⟨by rfl, ?_⟩) hHeld ?_
      rotate_left
      · intro w' hSw; have q1 := hSw.1; have q2 := (cm_cells hSw.2 hrl).2.1; go_simp; try with_reducible rfl
      try simp only [Act.put, List.setIfInBounds_toArray, List.set_cons_zero, List.set_cons_succ]
      refine wpAnyH_take (i := 6) (v := ?_) (List.getElem?_toArray.trans rfl) (by kernel_rfl) (by kernel_rfl) (by kernel_rfl) (fun _ _ _ h => gaveQ_put (Q := bodyPostD Tryz.prog Tryz.f33 (LayG w base k g ws r tt tb mb t m rb N)) (by simp) h) (Or.inl ⟨by rfl, ?_⟩) hHeld ?_
      rotate_left
      · intro w' hSw; have q1 := hSw.1; have q2 := (cm_cells hSw.2 hrl).2.1; go_simp; try with_reducible rfl
      try simp only [Act.put, List.setIfInBounds_toArray, List.set_cons_zero, List.set_cons_succ]
      refine wpAnyH_take (i := 7) (v := ?_) (List.getElem?_toArray.trans rfl) (by kernel_rfl) (by kernel_rfl) (by kernel_rfl) (fun _ _ _ h => gaveQ_put (Q := bodyPostD Tryz.prog Tryz.f33 (LayG w base k g ws r tt tb mb t m rb N)) (by simp) h) (Or.inl ⟨by rfl, ?_⟩) hHeld ?_
      rotate_left
      · intro w' hSw; have q1 := hSw.1; have q2 := (cm_cells hSw.2 hrl).2.1; go_simp; try with_reducible rfl
      try simp only [Act.put, List.setIfInBounds_toArray, List.set_cons_zero, List.set_cons_succ]
      refine wpAnyH_take (i := 8) (v := .agg #[pp tb, pp mb]) (List.getElem?_toArray.trans rfl) (by kernel_rfl) (by kernel_rfl) (by kernel_rfl) (fun _ _ _ h => gaveQ_put (Q := bodyPostD Tryz.prog Tryz.f33 (LayG w base k g ws r tt tb mb t m rb N)) (by simp) h) (Or.inl ⟨by rfl, ?_⟩) hHeld ?_
      · intro w' hSw; have q1 := hSw.1; have q2 := (cm_cells hSw.2 hrl).2.1; exact T9.exec_load _ _ rfl ⟨w.heap.size + 1, 12, none⟩ rfl _ (load_now hSw.2 hrl)
      try simp only [Act.put, List.setIfInBounds_toArray, List.set_cons_zero, List.set_cons_succ]
      refine wpAnyH_take (i := 9) (v := ?_) (List.getElem?_toArray.trans rfl) (by kernel_rfl) (by kernel_rfl) (by kernel_rfl) (fun _ _ _ h => gaveQ_put (Q := bodyPostD Tryz.prog Tryz.f33 (LayG w base k g ws r tt tb mb t m rb N)) (by simp) h) (Or.inl ⟨by rfl, ?_⟩) hHeld ?_
      rotate_left
      · intro w' hSw; have q1 := hSw.1; have q2 := (cm_cells hSw.2 hrl).2.1; go_simp; try with_reducible rfl
      try simp only [Act.put, List.setIfInBounds_toArray, List.set_cons_zero, List.set_cons_succ]
      refine wpAnyH_take (i := 10) (v := ?_) (List.getElem?_toArray.trans rfl) (by kernel_rfl) (by kernel_rfl) (by kernel_rfl) (fun _ _ _ h => gaveQ_put (Q := bodyPostD Tryz.prog Tryz.f33 (LayG w base k g ws r tt tb mb t m rb N)) (by simp) h) (Or.inl ⟨by rfl, ?_⟩) hHeld ?_
      rotate_left
      · intro w' hSw; have q1 := hSw.1; have q2 := (cm_cells hSw.2 hrl).2.1; go_simp; try with_reducible rfl
      try simp only [Act.put, List.setIfInBounds_toArray, List.set_cons_zero, List.set_cons_succ]
      refine wpAnyH_ready (rs := [11]) (by kernel_rfl) (by simp) ?_
      refine AllReadyH.cons (List.getElem?_toArray.trans rfl) (fun K hK => ?_) AllReadyH.nil
      with_reducible refine stM 79 (R8.rootC r).toArray 67 61 k.p 1 ht1 hi1 (rootC_one r) ?_ ?_ ?_
      rfl
      rfl
      generalize w1.drew.setCells k.p 1 (R8.rootC r).toArray.toList = v1 at *
      refine hK.out _ _ (⟨bp4.cell 0 rfl, bc4⟩) (fun hHeld => ?_)
      clear hK K
      try simp only [Act.put, List.setIfInBounds_toArray, List.set_cons_zero, List.set_cons_succ]
      refine wpAnyH_take (i := 12) (v := ?_) (List.getElem?_toArray.trans rfl) (by kernel_rfl) (by kernel_rfl) (by kernel_rfl) (fun _ _ _ h => gaveQ_put (Q := bodyPostD Tryz.prog Tryz.f33 (LayG w base k g ws r tt tb mb t m rb N)) (by simp) h) (Or.inl ⟨by rfl, ?_⟩) hHeld ?_
      rotate_left
      · intro w' hSw; have q1 := hSw.1; have q2 := (cm_cells hSw.2 hrl).2.1; go_simp; try with_reducible rfl
      try simp only [Act.put, List.setIfInBounds_toArray, List.set_cons_zero, List.set_cons_succ]
      refine wpAnyH_take (i := 13) (v := ?_) (List.getElem?_toArray.trans rfl) (by kernel_rfl) (by kernel_rfl) (by kernel_rfl) (fun _ _ _ h => gaveQ_put (Q := bodyPostD Tryz.prog Tryz.f33 (LayG w base k g ws r tt tb mb t m rb N)) (by simp) h) (Or.inl ⟨by rfl, ?_⟩) hHeld ?_
      rotate_left
      · intro w' hSw; have q1 := hSw.1; have q2 := (cm_cells hSw.2 hrl).2.1; go_simp; try with_reducible rfl
      try simp only [Act.put, List.setIfInBounds_toArray, List.set_cons_zero, List.set_cons_succ]
      refine wpAnyH_ready (rs := [14]) (by kernel_rfl) (by simp) ?_
      refine AllReadyH.cons (List.getElem?_toArray.trans rfl) (fun K hK => ?_) AllReadyH.nil
      go_simp
      refine hK.out _ _ (⟨bp5.cell 0 rfl, bc5⟩) (fun hHeld => ?_)
      clear hK K
      try simp only [Act.put, List.setIfInBounds_toArray, List.set_cons_zero, List.set_cons_succ]
      refine wpAnyH_take (i := 15) (v := ?_) (List.getElem?_toArray.trans rfl) (by kernel_rfl) (by kernel_rfl) (by kernel_rfl) (fun _ _ _ h => gaveQ_put (Q := bodyPostD Tryz.prog Tryz.f33 (LayG w base k g ws r tt tb mb t m rb N)) (by simp) h) (Or.inl ⟨by rfl, ?_⟩) hHeld ?_
      rotate_left
      · intro w' hSw; have q1 := hSw.1; have q2 := (cm_cells hSw.2 hrl).2.1; go_simp; try with_reducible rfl
      try simp only [Act.put, List.setIfInBounds_toArray, List.set_cons_zero, List.set_cons_succ]
      refine wpAnyH_take (i := 16) (v := ?_) (List.getElem?_toArray.trans rfl) (by kernel_rfl) (by kernel_rfl) (by kernel_rfl) (fun _ _ _ h => gaveQ_put (Q := bodyPostD Tryz.prog Tryz.f33 (LayG w base k g ws r tt tb mb t m rb N)) (by simp) h) (Or.inl ⟨by rfl, ?_⟩) hHeld ?_
      rotate_left
      · intro w' hSw; have q1 := hSw.1; have q2 := (cm_cells hSw.2 hrl).2.1; go_simp; try with_reducible rfl
      try simp only [Act.put, List.setIfInBounds_toArray, List.set_cons_zero, List.set_cons_succ]
      refine wpAnyH_ready (rs := [17]) (by kernel_rfl) (by simp) ?_
      refine AllReadyH.cons (List.getElem?_toArray.trans rfl) (fun K hK => ?_) AllReadyH.nil
      with_reducible refine stM 71 #[pp tb, pp mb] 71 65 k.p 12 ht3 hi3 hone ?_ ?_ ?_
      rfl
      rfl
      refine hK.out _ _ (⟨bp6.cell 0 rfl, bc6⟩) (fun hHeld => ?_)
      clear hK K
      try simp only [Act.put, List.setIfInBounds_toArray, List.set_cons_zero, List.set_cons_succ]
      refine wpAnyH_done (by kernel_rfl) ?_ _
      have hKG : D5.Kp (fun i => i = k.p) w1 ((v1.setCell ⟨k.p, 11, none⟩ (.int .i64 (tt : Nat))).setCells k.p 12 (#[pp tb, pp mb] : Array Value).toList) := (((D5.Kp.of0 gd).trans (kp_one g4)).trans (kp_one g5)).trans (kp_one g6)
      have hsz6 := hKG.size
      have hxx : (putAt ((putAt (pgL k'.dp k'.tb k'.mb g.r g.wh g.dead g.busy).toArray 1 (R8.rootC r).toArray.toList).setIfInBounds 11 (.int .i64 (tt : Nat))) 12 (#[pp tb, pp mb] : Array Value).toList) = (pgL k'.dp tb mb r (tt : Nat) g.dead g.busy).toArray := laid_pager _ _ _ _ _ _ _ _ _ _ _ HA.out.pg.len hrl
      rw [hxx] at bP6
      have hde := be6.cell 0 rfl
      have hfe := be6.free 0
      clear g4 g5 g6 bP4 bP5 bp4 bp5 bc4 bc5 be4 be5 bp6 bc6 ht1 ht3 c11 hi1 hi3 hone hsz5 f11 bP gd bp3 bc3 be3
      have e12 : (#[pp tb, pp mb] : Array Value).toList = [pp tb, pp mb] := rfl
      rw [e12] at *
      generalize (v1.setCell ⟨k.p, 11, none⟩ (.int .i64 (tt : Nat))).setCells k.p 12 [pp tb, pp mb] = v6 at *
      clear hHeld
      go_wp2
      have ge := gb_set v6 (w.heap.size + 2) 0 none (.int .i64 0)
      have hbe := be6.set 0 (.int .i64 0)
      have ltb := HA.out.tab.lt
      have lmb := HA.out.map.lt
      have ntb : k.p ≠ tb := blk_ne HA.out.pg.blk HA.out.tab.1 (by decide)
      have nmb : k.p ≠ mb := blk_ne HA.out.pg.blk HA.out.map (by decide)
      have hs0 := HW.out.hs
      have hk1 := HK.out.size
      have q1 : D5.Kp (fun i => i = k.p ∨ i = w.heap.size + 2) w1 (v6.setCell ⟨w.heap.size + 2, 0, none⟩ (.int .i64 0)) := (hKG.mono (fun _ h => .inl h)).trans ((kp_one ge).mono (fun _ h => .inr h))
      have q2 : D5.Kp (fun i => i = k.p ∨ D5.footP k.dp k.vs k.vp k.bm i) w (v6.setCell ⟨w.heap.size + 2, 0, none⟩ (.int .i64 0)) :=
        ((((D5.Kp.of0 HW.out.g0).trans (HK.out.mono (fun _ h => .inr h))).trans (hKG.mono (fun _ h => .inl h)))).step ge (fun j hj => .inr (by cases hj; omega))
      have hdk := pdv_frame HP.out.disk q1 (fun i hi e => by
        rcases e with rfl | rfl
        · exact HP.out.ne_p.1 (by rw [e1]; exact hi)
        · rcases HFt.out _ hi with h | h
          · have := HF.out _ h; omega
          · omega)
      have htab := kp_pt q1 (kp_pt HK.out (HA.out.tab.keep0 HW.out.g0) HA.out.ftb) (by omega)
      have hmap := kp_pm q1 (kp_pm HK.out (HA.out.map.keep0 HW.out.g0) HA.out.fmb) (by omega)
      have hoks : (atD g.d (ws.length + 3) ((D5.laidF ws g.d.secs).set tt rb) []).Ok (N + ws.length + 3) := by
        have h1 := HO3.out
        rw [HLn.out]
        exact h1
      refine lay_done hbe (.inr ⟨by rw [HLn.out]; exact hnc2, rfl, ⟨k.p, k'.dp, k'.vs, k'.vp, k'.bm, k'.D, tb, mb⟩, rfl, e4, rfl, rfl, hoks, ⟨bP6.keep ge (ne_some (by omega)), ?_, htab, hmap, hrl, HA.out.pg.bp, HA.out.btb, HA.out.bmb⟩, fun i hi => ?_, q2⟩) rfl
      · rw [HLn.out]
        exact hdk
      · rcases HFt.out i hi with h | h
        · exact .inl h
        · exact .inr (by omega)
end Go.Proofs.YtliiooldlooagaaGreatDoor.J10

/-
  What ends a transaction (Commit), over this seat's translation; conditions: those that each law states.
-/
namespace Go.Proofs.YtliiooldlooagaaGreatDoor.J10
open Go.RowKit Go.Maps
/-- Abort, as what is done at the end. -/
theorem abort_d {w : World} {base : Nat} {k : Bk} {y : Bx} {g : Pg} (h : PgV w base k g) (hx : Blk w y.x 74 (txC k.p y)) (hne : ¬ footG k y.x) :
    CallsD Tryz.prog 20 #[.pointer (some ⟨y.x, 0, none⟩)] .returning w fun e u w' => u = .returning ∧ AbortGot w base k y.x g e w' := by
  unfold AbortGot
  have h1 := h.setBusy false
  have f15 := h.free 15
  have x0 := hx.free 0
  have x1 := hx.free 1
  have x2 := hx.free 2
  have x3 := hx.free 3
  have x4 := hx.free 4
  have c0 : w.cell? ⟨y.x, 0, none⟩ = some (.pointer (some ⟨k.p, 0, none⟩)) := hx.cell 0 rfl
  have c1 : w.cell? ⟨y.x, 1, none⟩ = some (.pointer (some ⟨y.tb, 0, none⟩)) := hx.cell 1 rfl
  have c2 : w.cell? ⟨y.x, 2, none⟩ = some (.pointer (some ⟨y.mb, 0, none⟩)) := hx.cell 2 rfl
  have c3 : w.cell? ⟨y.x, 3, none⟩ = some (.map (some y.bm)) := hx.cell 3 rfl
  have c4 : w.cell? ⟨y.x, 4, none⟩ = some (.bool false) := hx.cell 4 rfl
  obtain ⟨_, _, _, _, _, c14, c15⟩ := h.cells
  have hxp : y.x ≠ k.p := fun e => hne (.inl e)
  have H := Lib.hid h
  have HX := Lib.hid hx
  have H1 := Lib.hid h1
  clear h h1 hx
  go_enter_d Tryz.func20, Tryz.ntmps20
  go_wp2
  first | go_end0 | refine bodyPost_ret (results_none rfl _ _ _) rfl ?_
  have g15 := gb_set w k.p 15 none (.bool false)
  have hb := (HX.out.keep g15 (ne_some hxp))
  have gs := gb_trans (gb_trans (gb_trans (gb_trans (gb_set (w.setCell ⟨k.p, 15, none⟩ (.bool false)) y.x 0 none (.pointer none)) (gb_set _ y.x 1 none (.pointer none))) (gb_set _ y.x 2 none (.pointer none))) (gb_set _ y.x 3 none (.map none))) (gb_set _ y.x 4 none (.bool true))
  refine ⟨rfl, H1.out.frame (kp_one gs) (fun i hi e => hne (e ▸ hi)), ((((hb.set 0 _).set 1 _).set 2 _).set 3 _).set 4 _, ?_⟩
  exact ((kp_one g15).mono (fun _ e => .inl e)).trans ((kp_one gs).mono (fun _ e => .inr e))
theorem abort_nil_d (w : World) : CallsD Tryz.prog 20 #[.pointer none] .returning w fun e u w' => u = .returning ∧ e = .returned (.tuple #[]) ∧ w = w' := by
  go_enter_d Tryz.func20, Tryz.ntmps20
  go_wp2
  first | go_end0 | refine bodyPost_ret (results_none rfl _ _ _) rfl ?_
  exact ⟨rfl, rfl⟩
theorem abort_over_d {w : World} {x : Nat} (h : OverB w x) : CallsD Tryz.prog 20 #[.pointer (some ⟨x, 0, none⟩)] .returning w fun e u w' => u = .returning ∧ e = .returned (.tuple #[]) ∧ w = w' := by
  have c0 : w.cell? ⟨x, 0, none⟩ = some (.pointer none) := h.cell 0 rfl
  clear h
  go_enter_d Tryz.func20, Tryz.ntmps20
  go_wp2
  first | go_end0 | refine bodyPost_ret (results_none rfl _ _ _) rfl ?_
  exact ⟨rfl, rfl⟩
def cmD (x : Option Addr) : Deferred := { target := .fn (.func 20) #[], args := #[.pointer x] }
theorem com_nil {w : World} {R : Ending → World → Prop} {tmps : Array Value} {v : Value} (ht : tmps.getD 2 undef = v) (hR : R (.returned v) w) : Leaves Tryz.prog Tryz.f13 tmps R [cmD none] .returning w := by
  refine leaves_cons (f := 20) (args := #[.pointer none]) (by simp) (by simp [go_sem]) ?_
  refine (abort_nil_d w).mono ?_
  rintro e u' w'' ⟨rfl, rfl, rfl⟩
  exact ⟨v, (results_tmp rfl _ _ _).trans (by rw [ht]), hR⟩
theorem com_over {w : World} {x : Nat} (h : OverB w x) {R : Ending → World → Prop} {tmps : Array Value} {v : Value} (ht : tmps.getD 2 undef = v) (hR : R (.returned v) w) : Leaves Tryz.prog Tryz.f13 tmps R [cmD (some ⟨x, 0, none⟩)] .returning w := by
  refine leaves_cons (f := 20) (args := #[.pointer (some ⟨x, 0, none⟩)]) (by simp) (by simp [go_sem]) ?_
  refine (abort_over_d h).mono ?_
  rintro e u' w'' ⟨rfl, rfl, rfl⟩
  exact ⟨v, (results_tmp rfl _ _ _).trans (by rw [ht]), hR⟩
theorem com_end {w : World} {base : Nat} {k : Bk} {y : Bx} {g : Pg} (h : PgV w base k g) (hx : Blk w y.x 74 (txC k.p y)) (hne : ¬ footG k y.x) {R : Ending → World → Prop} {tmps : Array Value} {v : Value} (ht : tmps.getD 2 undef = v)
    (hR : ∀ w', PgV w' base k { g with busy := false } → OverB w' y.x → D5.Kp (fun i => i = k.p ∨ i = y.x) w w' → R (.returned v) w') : Leaves Tryz.prog Tryz.f13 tmps R [cmD (some ⟨y.x, 0, none⟩)] .returning w := by
  refine leaves_cons (f := 20) (args := #[.pointer (some ⟨y.x, 0, none⟩)]) (by simp) (by simp [go_sem]) ?_
  refine (abort_d h hx hne).mono ?_
  rintro e u' w'' ⟨rfl, rfl, h1, h2, h3⟩
  exact ⟨v, (results_tmp rfl _ _ _).trans (by rw [ht]), hR _ h1 h2 h3⟩
theorem commit_nil (w : World) : Calls Tryz.prog 13 #[.pointer none] w fun e w' => e = .returned (.int .i64 1) ∧ w = w' := by
  go_enter_defers Tryz.func13, Tryz.ntmps13
  go_wp2_with (go_at_call 29; (with_reducible refine (refuses_nil _).mono ?_); rintro e w' ⟨rfl, rfl⟩)
  exact com_nil rfl ⟨rfl, rfl⟩
theorem commit_over {w : World} {x : Nat} (h : OverB w x) : Calls Tryz.prog 13 #[.pointer (some ⟨x, 0, none⟩)] w fun e w' => e = .returned (.int .i64 22) ∧ w = w' := by
  have H := Lib.hid h
  clear h
  go_enter_defers Tryz.func13, Tryz.ntmps13
  go_wp2_with (go_at_call 29; (with_reducible refine (refuses_over H.out).mono ?_); rintro e w' ⟨rfl, rfl⟩)
  exact com_over H.out rfl ⟨rfl, rfl⟩
structure ComA (w : World) (base : Nat) (k : Bk) (y : Bx) (n : Nat) (g : Pg) (T : Tr) (N : Nat) : Prop where
  tx : TxV w base k y n g T
  dead : g.dead = false
  b5 : 4 ≤ base
  tab : M6.Tab w
  pl : R8.Pl w
  bsz : base ≤ w.heap.size
  fit : R8.Fit g.r
  ml : T.m.length ≤ 1024
  n1 : 64 ≤ g.d.secs.length
  n2 : g.d.secs.length ≤ 1024
  off : g.d.off = false
  pend : g.d.pend = []
  ok : g.d.Ok N
/-- Nothing was done: the transaction is over. -/
def ComN (w : World) (base : Nat) (k : Bk) (y : Bx) (g : Pg) (c : Int) (e : Ending) (w' : World) : Prop :=
  e = .returned (.int .i64 c) ∧ PgV w' base k { g with busy := false } ∧ OverB w' y.x ∧ D5.Kp (footX k y) w w'
set_option maxHeartbeats 2000000 in
theorem commit_clean {w : World} {base n N : Nat} {k : Bk} {y : Bx} {g : Pg} {T : Tr} (h : ComA w base k y n g T N) (hD : T9.dirtyF T.t.D = []) :
    Calls Tryz.prog 13 #[.pointer (some ⟨y.x, 0, none⟩)] w (ComN w base k y g 0) := by
  unfold ComN
  obtain ⟨c0, c1, c2, c3, c4⟩ := h.tx.cells
  have HDi := Lib.hid (T9.dirty_any y.tb T.t w h.tx.tab)
  rw [hD] at HDi
  have H := Lib.hid h
  clear h hD
  go_enter_defers Tryz.func13, Tryz.ntmps13
  go_wp2_with (first
    | (go_at_call 29; (with_reducible refine (refuses_ok H.out.tx H.out.dead).mono ?_); rintro e w' ⟨rfl, rfl⟩)
    | (go_at_call 31; (with_reducible refine HDi.out.mono ?_); rintro e w1 ⟨v, rfl, o1, g1⟩; obtain ⟨ao, cap, rfl, -⟩ := Sl.of_owns o1; have o1 := Lib.hid o1)
    | fail)
  have h1 := H.out.tx.keep0 g1
  refine com_end h1.pg h1.blk h1.far.1 rfl (fun w' p q r => ⟨rfl, p, q, (D5.Kp.of0 g1).trans (r.mono (fun i hi => ?_))⟩)
  rcases hi with rfl | rfl
  · exact .inl (.inl rfl)
  · exact .inr (.inl rfl)
set_option maxRecDepth 100000 in
set_option maxHeartbeats 4000000 in
theorem commit_full {w : World} {base n N : Nat} {k : Bk} {y : Bx} {g : Pg} {T : Tr} (h : ComA w base k y n g T N) (hD : T9.dirtyF T.t.D ≠ []) (hP : planTo T.t.P ⟨g.r.cs, T.m, []⟩ (T9.dirtyF T.t.D) = none) :
    Calls Tryz.prog 13 #[.pointer (some ⟨y.x, 0, none⟩)] w (ComN w base k y g 11) := by
  unfold ComN
  obtain ⟨c0, c1, c2, c3, c4⟩ := h.tx.cells
  have HDi := Lib.hid (T9.dirty_any y.tb T.t w h.tx.tab)
  have hd0 : (T9.dirtyF T.t.D).length ≠ 0 := fun e => hD (List.length_eq_zero_iff.1 e)
  have hpl : ∀ W, w.grownBy W none → Calls Tryz.prog 32 #[.pointer (some ⟨y.x, 0, none⟩)] W fun e w' => PlanF W base k y n g T e w' := fun W gw =>
    (plan_any (h.tx.keep0 gw) h.b5 (h.tab.keep0 gw) h.fit h.ml (by have := h.n1; omega) h.n2 (fun s hs => by rw [hP] at hs; cases hs)).mono fun e w' hh => by
      rcases hh with ⟨s, hs, _⟩ | ⟨_, hh⟩
      · rw [hP] at hs; cases hs
      · exact hh
  unfold PlanF at hpl
  have HPl := Lib.hid hpl
  have H := Lib.hid h
  have hC14 := cm_info
  have hCone := cm_one
  clear h hD hP hpl
  generalize T9.dirtyF T.t.D = D at *
  obtain ⟨L, hL⟩ : ∃ L, D.length = L := ⟨_, rfl⟩
  rw [hL] at hd0
  have hb0 : (((L : Nat) : Int) == 0) = false := by simpa using hd0
  have HLn := Lib.hid hL
  unfold T9.NtsGot at HDi
  rw [hL] at HDi
  clear hL
  go_enter_defers Tryz.func13, Tryz.ntmps13
  go_wp2_with (first
    | (go_at_call 29; (with_reducible refine (refuses_ok H.out.tx H.out.dead).mono ?_); rintro e w' ⟨rfl, rfl⟩)
    | (go_at_call 31; (with_reducible refine HDi.out.mono ?_); rintro e w1 ⟨v, rfl, o1, g1⟩; obtain ⟨ao, cap, rfl, -⟩ := Sl.of_owns o1; have o1 := Lib.hid o1)
    | (go_at_call 32; (with_reducible refine (HPl.out _ g1).mono ?_); rintro e w2 ⟨M, rfl, h2, k2⟩)
    | (refine wpList_store_row rfl 81 (.tmp 4) (.tmp 23) rfl w2.heap.size zeroCm rfl rfl 81 zeroCm (Blk.mk w2 _ _) hC14 rfl hCone ?_)
    | fail)
  have ga := gb_alloc w2 (.cells zeroCm 81) none
  have gs := gb_setRow' (w2.alloc (.cells zeroCm 81)) w2.heap.size zeroCm
  have h3 := (h2.keep0 ga).past gs h2.lt (Nat.le_refl _)
  have z1 := k2.size
  have z0 := g1.size
  have k3 : D5.Kp (footX k y) w ((w2.alloc (.cells zeroCm 81)).setRow w2.heap.size zeroCm) := (((D5.Kp.of0 g1).trans (k2.mono (fun i hi => .inr (.inr hi)))).step0 ga).step gs (fun j e => .inr (by cases e; omega))
  refine com_end h3.pg h3.blk h3.far.1 rfl (fun w' p q r => ⟨rfl, p, q, k3.trans (r.mono (fun i hi => ?_))⟩)
  rcases hi with rfl | rfl
  · exact .inl (.inl rfl)
  · exact .inr (.inl rfl)
theorem own_lt {w : World} {lo n : Nat} {e : TypeId} {size : Nat} {v : Value} {xs : List Value} (o : w.ownsRow lo e size v n xs) : ∀ i, v.ownBlock = some i → lo ≤ i ∧ i < w.heap.size := by
  intro i hi
  rcases o.2 with ⟨rfl, _⟩ | ⟨g, cap, cur, rfl, hb, hh, _⟩
  · cases hi
  · cases hi
    exact ⟨hb, (Array.getElem?_eq_some_iff.1 hh).1⟩
theorem LayG.num {w : World} {base : Nat} {k : Bk} {g : Pg} {ws : List (Int × ByteArray)} {r : R8.Rt} {tt tb mb : Nat} {t : T9.TB} {m : List Bool} {rb : ByteArray} {N : Nat} {e : Ending} {w' : World} (h : LayG w base k g ws r tt tb mb t m rb N e w') :
    ∃ c : Int, e = .returned (.int .i64 c) ∧ ((cutAt g.d (ws.length + 2) ∧ c = 10 ∧ LayF w base k g ws tt rb N w') ∨ (¬ cutAt g.d (ws.length + 2) ∧ c = 0 ∧ LayOk w base k g ws r tt tb mb t m rb N w')) := by
  rcases h with ⟨h1, h2, h3⟩ | ⟨h1, h2, h3⟩
  · exact ⟨10, h2, .inl ⟨h1, rfl, h3⟩⟩
  · exact ⟨0, h2, .inr ⟨h1, rfl, h3⟩⟩
theorem lay_kp {w : World} {base : Nat} {k : Bk} {g : Pg} {ws : List (Int × ByteArray)} {r : R8.Rt} {tt tb mb : Nat} {t : T9.TB} {m : List Bool} {rb : ByteArray} {N : Nat} {c : Int} {w' : World}
    (h : (cutAt g.d (ws.length + 2) ∧ c = 10 ∧ LayF w base k g ws tt rb N w') ∨ (¬ cutAt g.d (ws.length + 2) ∧ c = 0 ∧ LayOk w base k g ws r tt tb mb t m rb N w')) : D5.Kp (fun i => i = k.p ∨ D5.footP k.dp k.vs k.vp k.bm i) w w' := by
  rcases h with ⟨_, _, _, _, _, _, _, _, _, _, _, _, _, hk⟩ | ⟨_, _, _, _, _, _, _, _, _, _, hk⟩
  · exact hk
  · exact hk
/-- A commit was laid, or the power went in it: the transaction is over. -/
def ComL (w : World) (base : Nat) (k : Bk) (y : Bx) (g : Pg) (T : Tr) (s : PlanS) (rb : ByteArray) (N : Nat) (e : Ending) (w' : World) : Prop :=
  ∃ c k' g', e = .returned (.int .i64 c) ∧ k'.p = k.p ∧ k'.dp = k.dp ∧ PgV w' base k' { g' with busy := false } ∧ OverB w' y.x ∧ (∀ i, footG k' i → footX k y i ∨ w.heap.size ≤ i) ∧ D5.Kp (footX k y) w w' ∧
    ((cutAt g.d ((wrF T.t.P T.X ++ s.ws).length + 2) ∧ c = 10 ∧ ∃ s1, Crashed g.d s1 (wrF T.t.P T.X ++ s.ws) (toN g.wh) rb ∧ s1.off = true ∧ s1.Ok (N + (wrF T.t.P T.X ++ s.ws).length + 3) ∧ g' = { g with d := s1, dead := true }) ∨
     (¬ cutAt g.d ((wrF T.t.P T.X ++ s.ws).length + 2) ∧ c = 0 ∧ (atD g.d ((wrF T.t.P T.X ++ s.ws).length + 3) ((D5.laidF (wrF T.t.P T.X ++ s.ws) g.d.secs).set (toN g.wh) rb) []).Ok (N + (wrF T.t.P T.X ++ s.ws).length + 3) ∧
       g' = ⟨atD g.d ((wrF T.t.P T.X ++ s.ws).length + 3) ((D5.laidF (wrF T.t.P T.X ++ s.ws) g.d.secs).set (toN g.wh) rb) [], newR g.r g.d.secs.length s.cs, (toN g.wh : Nat), T9.cleanF T.t, marks g.d.secs.length (usedL s.cs T.t.P), g.dead, g.busy⟩))
set_option maxRecDepth 100000 in
set_option maxHeartbeats 8000000 in
theorem commit_lay {w : World} {base n N : Nat} {k : Bk} {y : Bx} {g : Pg} {T : Tr} {s : PlanS} {rb : ByteArray} (h : ComA w base k y n g T N) (hD : T9.dirtyF T.t.D ≠ []) (hP : planTo T.t.P ⟨g.r.cs, T.m, []⟩ (T9.dirtyF T.t.D) = some s) (hok : PlanOk g.d.secs.length T.t.P s)
    (hW : ∃ mm, Wrs g.d.secs.length mm (wrF T.t.P T.X ++ s.ws)) (hgood : R8.Good (newR g.r g.d.secs.length s.cs)) (hrb : rb.data.toList = R8.putL (newR g.r g.d.secs.length s.cs)) (hbig : N + (wrF T.t.P T.X ++ s.ws).length + 10 ≤ 900000) :
    Calls Tryz.prog 13 #[.pointer (some ⟨y.x, 0, none⟩)] w (ComL w base k y g T s rb N) := by
  unfold ComL
  obtain ⟨c0, c1, c2, c3, c4⟩ := h.tx.cells
  have HDi := Lib.hid (T9.dirty_any y.tb T.t w h.tx.tab)
  have hd0 : (T9.dirtyF T.t.D).length ≠ 0 := fun e => hD (List.length_eq_zero_iff.1 e)
  have hpl : ∀ W, w.grownBy W none → Calls Tryz.prog 32 #[.pointer (some ⟨y.x, 0, none⟩)] W fun e w' => PlanG W base k y n g T s e w' := fun W gw =>
    (plan_any (h.tx.keep0 gw) h.b5 (h.tab.keep0 gw) h.fit h.ml (by have := h.n1; omega) h.n2 (fun s' hs => by rw [hP] at hs; cases hs; exact hok)).mono fun e w' hh => by
      rcases hh with ⟨s', hs, hh⟩ | ⟨hn, _⟩
      · rw [hP] at hs; cases hs; exact hh
      · rw [hP] at hn; cases hn
  unfold PlanG at hpl
  rw [toN_is] at hpl
  have HPl := Lib.hid hpl
  have H := Lib.hid h
  have HGood := Lib.hid hgood
  have HRb := Lib.hid hrb
  have HWs := Lib.hid hW
  have HBig := Lib.hid hbig
  have hC14 := cm_info14
  clear h hD hP hpl hok hgood hrb hW hbig
  generalize T9.dirtyF T.t.D = D at *
  obtain ⟨L, hL⟩ : ∃ L, D.length = L := ⟨_, rfl⟩
  rw [hL] at hd0
  have hb0 : (((L : Nat) : Int) == 0) = false := by simpa using hd0
  have HLn := Lib.hid hL
  unfold T9.NtsGot at HDi
  rw [hL] at HDi
  clear hL
  generalize hws : wrF T.t.P T.X ++ s.ws = ws at *
  obtain ⟨Lw, hLw⟩ : ∃ Lw, ws.length = Lw := ⟨_, rfl⟩
  have HLw := Lib.hid hLw
  generalize hr' : newR g.r g.d.secs.length s.cs = r' at *
  have hrl := HGood.out.2.1
  clear hws hr' hLw
  go_enter_defers Tryz.func13, Tryz.ntmps13
  go_wp2_with (first
    | (go_at_call 29; (with_reducible refine (refuses_ok H.out.tx H.out.dead).mono ?_); rintro e w' ⟨rfl, rfl⟩)
    | (go_at_call 31; (with_reducible refine HDi.out.mono ?_); rintro e w1 ⟨v, rfl, o1, g1⟩; obtain ⟨ao1, cap1, rfl, -⟩ := Sl.of_owns o1; have o1 := Lib.hid o1)
    | (go_at_call 32; go_loud ((with_reducible refine (HPl.out _ g1).mono ?_); rintro e w2 ⟨v, lo, mb, rfl, hlo1, hlo2, orow, hmb, hpm, h2, k2⟩; obtain ⟨ao, cap, rfl, -⟩ := Sl.of_owns orow; have hcb : (Tryz.prog.info? 81).map (·.size) = some (cmL (.slice ao ws.length cap) r' (toN g.wh : Nat) y.tb mb).toArray.size := (by rw [hC14, List.size_toArray, cmL_length _ _ hrl]); have hcz : zeroCm.size = (cmL (.slice ao ws.length cap) r' (toN g.wh : Nat) y.tb mb).toArray.size := (by show 14 = _; rw [List.size_toArray, cmL_length _ _ hrl]); have hco := cmL_one ao ws.length cap r' (toN g.wh : Nat) y.tb mb; have HLo1 := Lib.hid hlo1; have HLo2 := Lib.hid hlo2; have HRow := Lib.hid orow; have HMb := Lib.hid hmb; clear hlo1 hlo2 orow hmb))
    | (refine wpList_store_row rfl 81 (.tmp 4) (.tmp 23) rfl w2.heap.size (cmL (.slice ao ws.length cap) r' (toN g.wh : Nat) y.tb mb).toArray rfl rfl 81 zeroCm (Blk.mk w2 _ _) hcb hcz hco ?_)
    | fail)
  generalize hCdef : (cmL (.slice ao ws.length cap) r' (toN g.wh : Nat) y.tb mb).toArray = C at *
  have ga := gb_alloc w2 (.cells zeroCm 81) none
  have gs := gb_setRow' (w2.alloc (.cells zeroCm 81)) w2.heap.size C
  have bC := blk_setRow (Blk.mk w2 81 zeroCm) C
  have h3 := (h2.keep0 ga).past gs h2.lt (Nat.le_refl _)
  have z1 := k2.size
  have z0 := g1.size
  have zs := gs.size
  have za := ga.size
  have k3 : D5.Kp (footX k y) w ((w2.alloc (.cells zeroCm 81)).setRow w2.heap.size C) := (((D5.Kp.of0 g1).trans (k2.mono (fun i hi => .inr (.inr hi)))).step0 ga).step gs (fun j e => .inr (by cases e; omega))
  have lRow := own_lt HRow.out
  have row3 := (HRow.out.kept ga (by cases ao <;> simp [Value.ownBlock])).kept gs (.inr (fun e => by have := (lRow _ e).2; omega))
  have pl2 : R8.Pl w2 := pl_kp (H.out.pl.keep0 g1) k2 (fun i hi => by
    have b5 := H.out.b5
    rcases hi with rfl | rfl | rfl
    · exact Nat.le_trans b5 h2.bt
    · exact Nat.le_trans b5 h2.bmb
    · exact Nat.le_trans b5 h2.bbm)
  have pl3 : R8.Pl ((w2.alloc (.cells zeroCm 81)).setRow w2.heap.size C) := pl_kp (pl2.keep0 ga) (kp_one gs) (fun i hi => by subst hi; have := H.out.b5; have := H.out.bsz; omega)
  have hpm3 := (hpm.keep0 ga).keep gs (ne_some (by have := hpm.lt; omega))
  have hlt0 := H.out.tx.lt
  change Code.wp _ _ _ _ ((w2.alloc (.cells zeroCm 81)).setRow w2.heap.size C)
  generalize (w2.alloc (.cells zeroCm 81)).setRow w2.heap.size C = u at *
  have gd := gb_drew u none
  have h4 := h3.keep0 gd
  have hA : LayA u.drew base k g ws (.slice ao ws.length cap) lo r' (toN g.wh) y.tb mb (T9.cleanF T.t) (marks g.d.secs.length (usedL s.cs T.t.P)) rb N :=
    { pg := h4.pg, pl := pl3.keep0 gd, b5 := H.out.b5, off := H.out.off, pend := H.out.pend, ok := H.out.ok, big := HBig.out, bsz := by have := H.out.bsz; have := gd.size; omega,
      row := row3.kept gd (by cases ao <;> simp [Value.ownBlock]), rowf := fun i hi hf => by have := (lRow i hi).1; have := hlt0 i (.inl (.inr (.inl hf))); have := HLo1.out; omega,
      wrs := HWs.out, good := HGood.out, rlen := hrl, rbs := HRb.out, tt := by unfold toN; split <;> omega, n2 := by have := H.out.n1; omega, tab := h4.tab, map := hpm3.keep0 gd,
      ftb := fun hf => h4.far.2.1 (.inr (.inl hf)), fmb := fun hf => by have := hlt0 _ (.inl (.inr (.inl hf))); have := HMb.out; omega, btb := h4.bt, bmb := by have := H.out.bsz; have := HMb.out; omega }
  have hL := (lay_any hA rfl).mono fun e w' hh => hh.num
  rw [hCdef] at hL
  have hC14' : C.size = 14 := by rw [← hCdef, List.size_toArray, cmL_length _ _ hrl]
  refine wp_region_noPanic ?_
  refine wp_region_held_drew (S := fun w' => Blk w' y.x 74 (txC k.p y) ∧ Blk w' w2.heap.size 81 C) (by kernel_rfl) ⟨h4.blk, bC.keep0 gd⟩ (fun hHeld => ?_)
  refine wpAnyH_take (i := 0) (v := ?_) (List.getElem?_toArray.trans rfl) (by kernel_rfl) (by kernel_rfl) (by kernel_rfl) (fun _ _ _ h => h) (Or.inl ⟨by rfl, ?_⟩) hHeld ?_
  rotate_left
  · intro w' hSw; have q1 : w'.cell? ⟨y.x, 0, none⟩ = some (.pointer (some ⟨k.p, 0, none⟩)) := hSw.1.cell 0 rfl; go_simp; try with_reducible rfl
  try simp only [Act.put, List.setIfInBounds_toArray, List.set_cons_zero, List.set_cons_succ]
  refine wpAnyH_take (i := 1) (v := ?_) (List.getElem?_toArray.trans rfl) (by kernel_rfl) (by kernel_rfl) (by kernel_rfl) (fun _ _ _ h => h) (Or.inl ⟨by rfl, ?_⟩) hHeld ?_
  rotate_left
  · intro w' hSw; have q1 : w'.cell? ⟨y.x, 0, none⟩ = some (.pointer (some ⟨k.p, 0, none⟩)) := hSw.1.cell 0 rfl; go_simp; try with_reducible rfl
  try simp only [Act.put, List.setIfInBounds_toArray, List.set_cons_zero, List.set_cons_succ]
  refine wpAnyH_take (i := 2) (v := ?_) (List.getElem?_toArray.trans rfl) (by kernel_rfl) (by kernel_rfl) (by kernel_rfl) (fun _ _ _ h => h) (Or.inl ⟨by rfl, ?_⟩) hHeld ?_
  rotate_left
  · intro w' hSw; have q1 : w'.cell? ⟨y.x, 0, none⟩ = some (.pointer (some ⟨k.p, 0, none⟩)) := hSw.1.cell 0 rfl; go_simp; try with_reducible rfl
  try simp only [Act.put, List.setIfInBounds_toArray, List.set_cons_zero, List.set_cons_succ]
  refine wpAnyH_take (i := 3) (v := ?_) (List.getElem?_toArray.trans rfl) (by kernel_rfl) (by kernel_rfl) (by kernel_rfl) (fun _ _ _ h => h) (Or.inl ⟨by rfl, ?_⟩) hHeld ?_
  rotate_left
  · intro w' hSw; have q1 : w'.cell? ⟨y.x, 0, none⟩ = some (.pointer (some ⟨k.p, 0, none⟩)) := hSw.1.cell 0 rfl; go_simp; try with_reducible rfl
  try simp only [Act.put, List.setIfInBounds_toArray, List.set_cons_zero, List.set_cons_succ]
  refine wpAnyH_take (i := 4) (v := .agg C) (List.getElem?_toArray.trans rfl) (by kernel_rfl) (by kernel_rfl) (by kernel_rfl) (fun _ _ _ h => h) (Or.inl ⟨by rfl, ?_⟩) hHeld ?_
  · intro w' hSw; have q1 : w'.cell? ⟨y.x, 0, none⟩ = some (.pointer (some ⟨k.p, 0, none⟩)) := hSw.1.cell 0 rfl; exact T9.exec_load _ _ rfl ⟨w2.heap.size, 0, none⟩ rfl _ (load_cm hSw.2 hC14')
  try simp only [Act.put, List.setIfInBounds_toArray, List.set_cons_zero, List.set_cons_succ]
  refine wpAnyH_ready (rs := [5]) (by kernel_rfl) (by simp) ?_
  refine AllReadyH.cons (List.getElem?_toArray.trans rfl) (fun K hK => ?_) AllReadyH.nil
  go_simp
  go_at_call 33
  (with_reducible refine hL.mono ?_)
  rintro e w5 ⟨c, rfl, hS⟩
  have hK5 : D5.Kp (fun i => i = k.p ∨ D5.footP k.dp k.vs k.vp k.bm i) u.drew w5 := lay_kp hS
  have hS5 : Blk w5 y.x 74 (txC k.p y) ∧ Blk w5 w2.heap.size 81 C := ⟨hK5.blk h4.blk (fun e => h4.far.1 (by rcases e with e | e; exact .inl e; exact .inr (.inl e))), hK5.blk (bC.keep0 gd) (fun e => by have := hlt0 w2.heap.size (.inl (by rcases e with e | e; exact .inl e; exact .inr (.inl e))); omega)⟩
  refine hK.out _ _ (hS5) (fun hHeld => ?_)
  clear hK K
  try simp only [Act.put, List.setIfInBounds_toArray, List.set_cons_zero, List.set_cons_succ]
  refine wpAnyH_take (i := 6) (v := ?_) (List.getElem?_toArray.trans rfl) (by kernel_rfl) (by kernel_rfl) (by kernel_rfl) (fun _ _ _ h => h) (Or.inl ⟨by rfl, ?_⟩) hHeld ?_
  rotate_left
  · intro w' hSw; have q1 : w'.cell? ⟨y.x, 0, none⟩ = some (.pointer (some ⟨k.p, 0, none⟩)) := hSw.1.cell 0 rfl; go_simp; try with_reducible rfl
  try simp only [Act.put, List.setIfInBounds_toArray, List.set_cons_zero, List.set_cons_succ]
  refine wpAnyH_done (by kernel_rfl) ?_ _
  refine NoPanic.normal ?_
  have hx5 := hS5.1
  have hsz : w.heap.size ≤ u.drew.heap.size := by have := gd.size; omega
  have hkF : D5.Kp (footX k y) w w5 := (k3.step0 gd).trans (hK5.mono (fun i hi => .inl (by rcases hi with e | e; exact .inl e; exact .inr (.inl e))))
  have lx := hlt0 y.x (.inr (.inl rfl))
  have far := h4.far.1
  have own := h4.own
  go_wp2
  rcases hS with ⟨hcut, rfl, s1, k', hc, hoff, hok, e1, e2, e3, e4, hp, hf, _⟩ | ⟨hcut, rfl, k', e1, e2, e3, e4, hok, hp, hf, _⟩
  · rw [← e1] at hx5
    refine com_end hp hx5 (fun hi => ?_) rfl (fun w' p q r => ⟨10, k', { g with d := s1, dead := true }, rfl, e1, e2, p, q, fun i hi => ?_, hkF.trans (r.mono (fun i hi => ?_)), .inl ⟨hcut, rfl, s1, hc, hoff, hok, rfl⟩⟩)
    · rcases hi with h | h | h | h
      · exact far (.inl (h.trans e1))
      · rcases hf _ h with h | h
        · exact far (.inr (.inl h))
        · omega
      · exact far (.inr (.inr (.inl (h.trans e3))))
      · exact far (.inr (.inr (.inr (h.trans e4))))
    · rcases hi with h | h | h | h
      · exact .inl (.inl (.inl (h.trans e1)))
      · rcases hf _ h with h | h
        · exact .inl (.inl (.inr (.inl h)))
        · exact .inr (by omega)
      · exact .inl (.inl (.inr (.inr (.inl (h.trans e3)))))
      · exact .inl (.inl (.inr (.inr (.inr (h.trans e4)))))
    · rcases hi with h | h
      · exact .inl (.inl (h.trans e1))
      · exact .inr (.inl h)
  · rw [← e1] at hx5
    have hmbw := HMb.out
    refine com_end hp hx5 (fun hi => ?_) rfl (fun w' p q r => ⟨0, k', ⟨atD g.d (ws.length + 3) ((D5.laidF ws g.d.secs).set (toN g.wh) rb) [], r', (toN g.wh : Nat), T9.cleanF T.t, marks g.d.secs.length (usedL s.cs T.t.P), g.dead, g.busy⟩, rfl, e1, e2, p, q, fun i hi => ?_, hkF.trans (r.mono (fun i hi => ?_)), .inr ⟨hcut, rfl, hok, rfl⟩⟩)
    · rcases hi with h | h | h | h
      · exact far (.inl (h.trans e1))
      · rcases hf _ h with h | h
        · exact far (.inr (.inl h))
        · omega
      · exact own.1 (h.trans e3)
      · have := h.trans e4; omega
    · rcases hi with h | h | h | h
      · exact .inl (.inl (.inl (h.trans e1)))
      · rcases hf _ h with h | h
        · exact .inl (.inl (.inr (.inl h)))
        · exact .inr (by omega)
      · exact .inl (.inr (.inr (.inl (h.trans e3))))
      · exact .inr (by have := h.trans e4; omega)
    · rcases hi with h | h
      · exact .inl (.inl (h.trans e1))
      · exact .inr (.inl h)
end Go.Proofs.YtliiooldlooagaaGreatDoor.J10

/-
  The root that counts on a disk (rootOn), over this seat's translation; conditions: the disk's power is on, nothing is armed and nothing waits, and its roots are such as Picks tells.
-/
namespace Go.Proofs.YtliiooldlooagaaGreatDoor.J10
open Go.RowKit Go.Maps
/-- A disk on which nothing is armed and nothing waits, behind j operations. -/
def idD (s : D5.St) (j : Nat) : D5.St := atD s j s.secs []
theorem idD_zero {s : D5.St} (h : Idle s) : idD s 0 = s := by
  have h1 := at_zero h.1
  rw [h.2.2] at h1
  exact h1
theorem idD_read {w : World} {base N j : Nat} {F : Nat → Prop} {p : Nat} {s : D5.St} (hP : D5.PD w base F p (idD s j)) (hi : Idle s) (hok : (idD s j).Ok N) (hN : N ≤ 900000) {m : Nat} (hm : m < s.secs.length) :
    Calls Tryz.prog 85 #[.pointer (some ⟨p, 0, none⟩), .int .i64 (m : Nat)] w fun e w' => e = .returned (.tuple #[.string (secAt s.secs m), .int .i64 0]) ∧ D5.PD w' base F p (idD s (j + 1)) ∧ (idD s (j + 1)).Ok (N + 1) ∧ D5.Kp F w w' := by
  have hid : Idle (idD s j) := ⟨rfl, hi.2.1, rfl⟩
  obtain ⟨r1, r2, r3⟩ := hid.read (m := m) hm
  have hl := hok.len
  have hnc : ¬ cutAt s j := fun e => by have := e.1; rw [hi.2.1] at this; cases this
  have hs : D5.opS (idD s j) true = idD s (j + 1) := at_S_go hnc
  have hok2 := hok.op true
  rw [hs] at hok2
  have hl' : m < (idD s j).secs.length := hm
  refine (D5.dread_any w base F p (idD s j) (m : Nat) N hP hok hN ⟨by omega, by omega⟩).mono ?_
  rintro e w' ⟨rfl, hp, hk⟩
  rw [r1, r2]
  rw [r3, hs] at hp
  exact ⟨rfl, hp, hok2, hk⟩
theorem pd_keep {w w' : World} {base : Nat} {F G : Nat → Prop} {p : Nat} {s : D5.St} (h : D5.PD w base F p s) (g : D5.Kp G w w') (hd : ∀ i, F i → ¬ G i) : D5.PD w' base F p s := by
  obtain ⟨vs, vp, bm, D, hv, hf⟩ := h
  exact ⟨vs, vp, bm, D, pdv_frame hv g (fun i hi => hd i (hf i hi)), hf⟩
def twoS (s : D5.St) (j : Nat) : Array Value := #[.string (if 0 < j then secAt s.secs 0 else ⟨#[]⟩), .string (if 1 < j then secAt s.secs 1 else ⟨#[]⟩)]
theorem twoS_next (s : D5.St) (j : Nat) (h : j < 2) : (twoS s j).setIfInBounds j (.string (secAt s.secs j)) = twoS s (j + 1) := by
  match j, h with
  | 0, _ => rfl
  | 1, _ => rfl
def RootG (w : World) (base N : Nat) (F : Nat → Prop) (p : Nat) (s : D5.St) (r : R8.Rt) (wh : Int) (e : Ending) (w' : World) : Prop :=
  e = .returned (.tuple #[R8.RV r, .int .i64 wh, .int .i64 0]) ∧ D5.PD w' base F p (idD s 2) ∧ (idD s 2).Ok (N + 2) ∧ D5.Kp F w w'
set_option maxRecDepth 100000 in
set_option maxHeartbeats 4000000 in
theorem rootOn_any {w : World} {base N : Nat} {F : Nat → Prop} {p : Nat} {s : D5.St} {r : R8.Rt} {wh : Int} (hP : D5.PD w base F p s) (hi : Idle s) (hok : s.Ok N) (hN : N ≤ 890000) (hn : 2 ≤ s.secs.length) (hr : Picks s.secs r wh) (hrl : r.cs.length = 8) (hpl : R8.Pl w) (hF : ∀ i, F i → 4 ≤ i ∧ i < w.heap.size) :
    Calls Tryz.prog 49 #[.pointer (some ⟨p, 0, none⟩)] w (RootG w base N F p s r wh) := by
  unfold RootG
  have HI := Lib.hid hi
  have HOk := Lib.hid hok
  have HR := Lib.hid hr
  have HPl := Lib.hid hpl
  have HF := Lib.hid hF
  have HP := Lib.hid hP
  have HNn := Lib.hid hn
  clear hi hok hr hpl hF hP hn
  go_enter Tryz.func49, Tryz.ntmps49
  go_wp2
  have hw0 : ∃ w0, w0 = (w.alloc (.cells (R8.rootC R8.zeroR).toArray 79)).alloc (.cells (twoS s 0) 155) := ⟨_, rfl⟩
  obtain ⟨w0, hw0⟩ := hw0
  have gA := gb_alloc w (.cells (R8.rootC R8.zeroR).toArray 79) none
  have gB := gb_alloc (w.alloc (.cells (R8.rootC R8.zeroR).toArray 79)) (.cells (twoS s 0) 155) none
  have b2 := (Blk.mk w 79 (R8.rootC R8.zeroR).toArray).keep0 gB
  have b5 := Blk.mk (w.alloc (.cells (R8.rootC R8.zeroR).toArray 79)) 155 (twoS s 0)
  rw [World.size_alloc] at b5
  have g0 := gb_trans gA gB
  rw [← hw0] at b2 b5 g0
  change Code.wp _ _ _ _ ((w.alloc (.cells (R8.rootC R8.zeroR).toArray 79)).alloc (.cells (twoS s 0) 155))
  rw [← hw0]
  have hz0 : idD s 0 = s := idD_zero HI.out
  have hp0 : D5.PD w0 base F p (idD s 0) := by
    rw [hz0]
    obtain ⟨vs, vp, bm, D, hv, hf⟩ := HP.out
    exact ⟨vs, vp, bm, D, pdv_frame hv (kp_none (F := fun _ => False) g0) (fun _ _ h => h), hf⟩
  clear hw0 gA gB
  have B2 := Lib.hid b2
  have B5 := Lib.hid b5
  have G0 := Lib.hid g0
  have P0 := Lib.hid hp0
  clear b2 b5 g0 hp0
  go_loopw [12] (fun i wz => ∃ j : Nat, j ≤ 2 ∧ i = .int .i64 (j : Nat) ∧ D5.PD wz base F p (idD s j) ∧ (idD s j).Ok (N + j) ∧ D5.Kp F w wz ∧ Blk wz w.heap.size 79 (R8.rootC R8.zeroR).toArray ∧ Blk wz (w.heap.size + 1) 155 (twoS s j)) (fun i _ => 2 - (intOf i).toNat)
  case atStart => exact ⟨0, by omega, rfl, P0.out, by rw [hz0]; exact HOk.out, D5.Kp.of0 G0.out, B2.out, B5.out⟩
  case round =>
    obtain ⟨j, hj, rfl, hP, hOk, hK, hb2, hb5⟩ := hrel
    by_cases hlt : j < 2
    · have hRd := idD_read hP HI.out hOk (by omega) (m := j) (by have := HNn.out; omega)
      have HK := Lib.hid hK
      have HB2 := Lib.hid hb2
      have HB5 := Lib.hid hb5
      have HRd := Lib.hid hRd
      have zK := hK.size
      have lt5 := hb5.lt
      clear hP hOk hK hb2 hb5 hRd
      go_wp2_with (first
        | (go_at_call 85; (with_reducible refine HRd.out.mono ?_); rintro e w1 ⟨rfl, hp1, hok1, hk1⟩; have hb5 := hk1.blk HB5.out (fun e => by have := (HF.out _ e).2; omega); have hb2 := hk1.blk HB2.out (fun e => by have := (HF.out _ e).2; omega); have f5 := fun o => hb5.free o; have hp1 := Lib.hid hp1; have hk1 := Lib.hid hk1; have hok1 := Lib.hid hok1; have hc5 : w1.cell? ⟨w.heap.size + 1, j, none⟩ = some ((twoS s j).getD j undef) := hb5.cell j (getD_some hlt))
        | fail)
      have gE := gb_set w1 (w.heap.size + 1) j none (.string (secAt s.secs j))
      refine ⟨⟨j + 1, by omega, by simp, pd_keep hp1.out (kp_one gE) (fun i hi e => by have := (HF.out _ hi).2; omega), hok1.out, (HK.out.trans hk1.out).step gE (fun q e => .inr (by cases e; omega)), hb2.keep gE (ne_some (by omega)), by rw [← twoS_next s j hlt]; exact hb5.set j _⟩, by simp [intOf]; omega⟩
    · obtain rfl : j = 2 := by omega
      have q0 : wr.cell? ⟨w.heap.size + 1, 0, none⟩ = some (.string (secAt s.secs 0)) := hb5.cell 0 rfl
      have q1 : wr.cell? ⟨w.heap.size + 1, 1, none⟩ = some (.string (secAt s.secs 1)) := hb5.cell 1 rfl
      have hpk := R8.pick_any (secAt s.secs 0) (secAt s.secs 1) wr (pl_kp HPl.out hK (fun i hi => (HF.out i hi).1))
      have zK := hK.size
      have lt5 := hb5.lt
      have HPd := Lib.hid hP
      have HOk2 := Lib.hid hOk
      have HK := Lib.hid hK
      have HB2 := Lib.hid hb2
      have hinf := R8.root_info r hrl
      have hone := R8.root_one r
      have hsz : (R8.rootC R8.zeroR).toArray.size = (R8.rootC r).toArray.size := (R8.root_size R8.zeroR rfl).symm.trans (R8.root_size r hrl)
      clear hP hOk hK hb2 hb5
      rcases HR.out with ⟨rfl, rfl, e3⟩ | ⟨hg, hn', hwh, e3⟩
      · unfold R8.PickGot at hpk
        have e3' : R8.pickF (secAt s.secs 0).data.toList (secAt s.secs 1).data.toList = (R8.zeroR, -1, 9) := e3
        rw [e3'] at hpk
        simp only at hpk
        clear HR
        have HPk := Lib.hid hpk
        clear hpk e3 e3'
        go_wp2_with (first
          | (go_at_call 86; (with_reducible refine HPk.out.mono ?_); rintro e w1 ⟨rfl, g1⟩; have hb2 := HB2.out.keep0 g1; have hl9 := R8.RB.load (r := R8.zeroR) (Blk.mk w1 79 (R8.rootC R8.zeroR).toArray) hrl; have hb2' := hb2.keep0 (gb_alloc w1 (.cells (R8.rootC R8.zeroR).toArray 79) none); have g1 := Lib.hid g1)
          | (refine R8.stN 9 35 R8.zeroR hrl rfl rfl ?_)
          | (refine M6.wpList_load_at rfl 79 (.tmp 9) rfl ⟨w1.heap.size, 0, none⟩ rfl _ hl9 ?_)
          | (refine wpList_store_row rfl 79 (.tmp 2) (.tmp 40) rfl w.heap.size (R8.rootC R8.zeroR).toArray rfl rfl 79 _ hb2' hinf rfl hone ?_)
          | fail)
        have gs := gb_setRow' (w1.alloc (.cells (R8.rootC R8.zeroR).toArray 79)) w.heap.size (R8.rootC R8.zeroR).toArray
        have gq := gb_trans g1.out (gb_alloc w1 (.cells (R8.rootC R8.zeroR).toArray 79) none)
        refine bodyPost_ret (R8.results_ctt rfl _ _ w.heap.size R8.zeroR rfl (blk_setRow hb2' _) hrl) rfl ⟨rfl, pd_keep HPd.out ((D5.Kp.of0 gq).trans (kp_one gs)) (fun i hi e => by have := (HF.out _ hi).2; omega), HOk2.out, (HK.out.step0 gq).step gs (fun q e => .inr (by cases e; omega))⟩
      · unfold R8.PickGot at hpk
        have e3' : R8.pickF (secAt s.secs 0).data.toList (secAt s.secs 1).data.toList = (r, wh, 0) := e3
        rw [e3'] at hpk
        simp only at hpk
        have HPk := Lib.hid hpk
        have HN' := Lib.hid hn'
        clear hpk e3 e3' HR hg hwh hn'
        go_wp2_with (first
          | (go_at_call 86; (with_reducible refine HPk.out.mono ?_); rintro e w1 ⟨rfl, g1⟩; have hb2 := HB2.out.keep0 g1; have hb2' := hb2.keep0 (gb_alloc w1 (.cells (R8.rootC r).toArray 79) none); have g1 := Lib.hid g1)
          | (refine R8.stN 9 35 r hrl rfl rfl ?_)
          | fail)
        have gq := gb_trans g1.out (gb_alloc w1 (.cells (R8.rootC r).toArray 79) none)
        have hb9 := Blk.mk w1 79 (R8.rootC r).toArray
        generalize w1.alloc (.cells (R8.rootC r).toArray 79) = u at *
        have gd := gb_drew u none
        have gq := gb_trans gq gd
        have hb2 := hb2'.keep0 gd
        have hb9 := hb9.keep0 gd
        have c91 : u.drew.cell? ⟨w1.heap.size, 1, none⟩ = some (.int .i64 r.n) := R8.RB.sectors hb9
        have hl9 := R8.RB.load (r := r) hb9 hrl
        have hpu := pd_keep HPd.out (kp_none (F := fun _ => False) gq) (fun _ _ h => h)
        have hse := D5.dsectors_any u.drew base F p (idD s 2) hpu
        have hsl : (((idD s 2).secs.length : Nat) : Int) = r.n := HN'.out.symm
        rw [hsl] at hse
        clear hb2'
        refine wp_region_noPanic ?_
        refine wp_region_held_drew (S := fun w' => w'.cell? ⟨w1.heap.size, 1, none⟩ = some (.int .i64 r.n)) (by kernel_rfl) c91 (fun hHeld => ?_)
        refine wpAnyH_take (i := 0) (v := ?_) (List.getElem?_toArray.trans rfl) (by kernel_rfl) (by kernel_rfl) (by kernel_rfl) (fun _ _ _ h => h) (Or.inl ⟨by rfl, ?_⟩) hHeld ?_
        rotate_left
        · intro w' hSw; go_simp; try with_reducible rfl
        try simp only [Act.put, List.setIfInBounds_toArray, List.set_cons_zero, List.set_cons_succ]
        refine wpAnyH_take (i := 1) (v := ?_) (List.getElem?_toArray.trans rfl) (by kernel_rfl) (by kernel_rfl) (by kernel_rfl) (fun _ _ _ h => h) (Or.inl ⟨by rfl, ?_⟩) hHeld ?_
        rotate_left
        · intro w' hSw; go_simp; try with_reducible rfl
        try simp only [Act.put, List.setIfInBounds_toArray, List.set_cons_zero, List.set_cons_succ]
        refine wpAnyH_take (i := 2) (v := ?_) (List.getElem?_toArray.trans rfl) (by kernel_rfl) (by kernel_rfl) (by kernel_rfl) (fun _ _ _ h => h) (Or.inl ⟨by rfl, ?_⟩) hHeld ?_
        rotate_left
        · intro w' hSw; go_simp; try with_reducible rfl
        try simp only [Act.put, List.setIfInBounds_toArray, List.set_cons_zero, List.set_cons_succ]
        refine wpAnyH_take (i := 3) (v := ?_) (List.getElem?_toArray.trans rfl) (by kernel_rfl) (by kernel_rfl) (by kernel_rfl) (fun _ _ _ h => h) (Or.inl ⟨by rfl, ?_⟩) hHeld ?_
        rotate_left
        · intro w' hSw; go_simp; try with_reducible rfl
        try simp only [Act.put, List.setIfInBounds_toArray, List.set_cons_zero, List.set_cons_succ]
        refine wpAnyH_take (i := 4) (v := ?_) (List.getElem?_toArray.trans rfl) (by kernel_rfl) (by kernel_rfl) (by kernel_rfl) (fun _ _ _ h => h) (Or.inl ⟨by rfl, ?_⟩) hHeld ?_
        rotate_left
        · intro w' hSw; go_simp; try with_reducible rfl
        try simp only [Act.put, List.setIfInBounds_toArray, List.set_cons_zero, List.set_cons_succ]
        refine wpAnyH_take (i := 5) (v := ?_) (List.getElem?_toArray.trans rfl) (by kernel_rfl) (by kernel_rfl) (by kernel_rfl) (fun _ _ _ h => h) (Or.inl ⟨by rfl, ?_⟩) hHeld ?_
        rotate_left
        · intro w' hSw; go_simp; try with_reducible rfl
        try simp only [Act.put, List.setIfInBounds_toArray, List.set_cons_zero, List.set_cons_succ]
        refine wpAnyH_ready (rs := [6]) (by kernel_rfl) (by simp) ?_
        refine AllReadyH.cons (List.getElem?_toArray.trans rfl) (fun K hK => ?_) AllReadyH.nil
        go_simp
        go_at_call 57
        (with_reducible refine hse.mono ?_)
        rintro e w2 ⟨rfl, rfl⟩
        refine hK.out _ _ (c91) (fun hHeld => ?_)
        clear hK K
        try simp only [Act.put, List.setIfInBounds_toArray, List.set_cons_zero, List.set_cons_succ]
        refine wpAnyH_take (i := 7) (v := ?_) (List.getElem?_toArray.trans rfl) (by kernel_rfl) (by kernel_rfl) (by kernel_rfl) (fun _ _ _ h => h) (Or.inl ⟨by rfl, ?_⟩) hHeld ?_
        rotate_left
        · intro w' hSw; go_simp; try with_reducible rfl
        try simp only [Act.put, List.setIfInBounds_toArray, List.set_cons_zero, List.set_cons_succ]
        refine wpAnyH_take (i := 8) (v := ?_) (List.getElem?_toArray.trans rfl) (by kernel_rfl) (by kernel_rfl) (by kernel_rfl) (fun _ _ _ h => h) (Or.inl ⟨by rfl, ?_⟩) hHeld ?_
        rotate_left
        · intro w' hSw; go_simp; try with_reducible rfl
        try simp only [Act.put, List.setIfInBounds_toArray, List.set_cons_zero, List.set_cons_succ]
        refine wpAnyH_done (by kernel_rfl) ?_ _
        refine NoPanic.normal ?_
        go_wp2_with (first
          | (refine M6.wpList_load_at rfl 79 (.tmp 9) rfl ⟨w1.heap.size, 0, none⟩ rfl _ hl9 ?_)
          | (refine wpList_store_row rfl 79 (.tmp 2) (.tmp 52) rfl w.heap.size (R8.rootC r).toArray rfl rfl 79 _ hb2 hinf hsz hone ?_)
          | fail)
        have gs := gb_setRow' u.drew w.heap.size (R8.rootC r).toArray
        refine bodyPost_ret (R8.results_ctt rfl _ _ w.heap.size r rfl (blk_setRow hb2 _) hrl) rfl ⟨rfl, pd_keep hpu (kp_one gs) (fun i hi e => by have := (HF.out _ hi).2; omega), HOk2.out, (HK.out.step0 gq).step gs (fun q e => .inr (by cases e; omega))⟩
end Go.Proofs.YtliiooldlooagaaGreatDoor.J10

/-
  The table whose chunks stand on a disk (tableOn), over this seat's translation; conditions: the disk is as Sto tells, nothing is armed and nothing waits.
-/
namespace Go.Proofs.YtliiooldlooagaaGreatDoor.J10
open Go.RowKit Go.Maps
theorem hd_kp {F : Nat → Prop} {w w' : World} (h : Hd w) (k : D5.Kp F w w') (hF : ∀ i, F i → 4 ≤ i) : Hd w' := by
  have hlt := h.lt
  unfold Hd at h ⊢
  unfold World.cell? at h ⊢
  rw [k.block _ hlt (fun hf => absurd (hF _ hf) (by decide))]
  exact h
theorem uF_skip {P : List Nat} (hP : P.length = 960) {i : Nat} (hi : i < 8) (h : ∀ j, j < 960 → j / 120 = i → P.getD j 0 = 0) : T9.uF P (i + 1) = T9.uF P i := by
  unfold T9.uF T9.nots
  congr 1
  apply List.ext_getElem
  · simp only [List.length_append, List.length_take, List.length_replicate]; omega
  · intro j h1 h2
    have hj : j < 960 := by simp only [List.length_append, List.length_take, List.length_replicate] at h1; omega
    by_cases a : j < 120 * i
    · rw [List.getElem_append_left (by rw [List.length_take]; omega), List.getElem_append_left (by rw [List.length_take]; omega), List.getElem_take, List.getElem_take]
    · by_cases b : j < 120 * (i + 1)
      · rw [List.getElem_append_left (by rw [List.length_take]; omega), List.getElem_append_right (by rw [List.length_take]; omega), List.getElem_take, List.getElem_replicate]
        have h3 := h j hj (by omega)
        rw [getD_lt (by omega)] at h3
        exact h3
      · rw [List.getElem_append_right (by rw [List.length_take]; omega), List.getElem_append_right (by rw [List.length_take]; omega), List.getElem_replicate, List.getElem_replicate]
theorem Sto.noOne {ss : List ByteArray} {cs : List Int} {t : T9.TB} {m : List Bool} {V : Pgs} (h : Sto ss cs t m V) : T9.NoOne t.P := by
  intro x hx e
  obtain ⟨j, hj, e2⟩ := List.getElem_of_mem hx
  have h1 := h.apart.2.2.1 j hj
  rw [getD_lt hj] at h1
  exact h1 (e2.trans e)
def TableG (w : World) (base N q : Nat) (F : Nat → Prop) (p : Nat) (s : D5.St) (t : T9.TB) (e : Ending) (w' : World) : Prop :=
  ∃ a q', e = .returned (.tuple #[.pointer (some ⟨a, 0, none⟩), .int .i64 0]) ∧ w.heap.size ≤ a ∧ q' ≤ q + 8 ∧ T9.PT w' a t ∧ D5.PD w' base F p (idD s q') ∧ (idD s q').Ok (N + q') ∧ D5.Kp F w w'
set_option maxRecDepth 100000 in
set_option maxHeartbeats 4000000 in
theorem tableOn_any {w : World} {base N q : Nat} {F : Nat → Prop} {p : Nat} {s : D5.St} {cs : List Int} {t : T9.TB} {m : List Bool} {V : Pgs} (hP : D5.PD w base F p (idD s q)) (hi : Idle s) (hok : (idD s q).Ok (N + q)) (hN : N + q ≤ 890000) (hs : Sto s.secs cs t m V) (hd : Hd w) (hF : ∀ i, F i → 4 ≤ i ∧ i < w.heap.size) :
    Calls Tryz.prog 87 #[.pointer (some ⟨p, 0, none⟩), .agg (cs.map (Value.int .i64)).toArray] w (TableG w base N q F p s t) := by
  unfold TableG
  obtain ⟨ns, hns⟩ : ∃ ns, cs.map Int.toNat = ns := ⟨_, rfl⟩
  have hnl : ns.length = 8 := by rw [← hns, List.length_map]; exact hs.len
  have hnn : ∀ i, ns.getD i 0 = cN cs i := fun i => by rw [← hns]; exact cN_map cs i
  rw [cs_ints hs.len hs.pos, hns]
  have HIx := Lib.hid (fun k hk => index_ints ns hnl k hk)
  have hCs : (intsC ns).toArray.size = 8 := by unfold intsC; simp [hnl]
  obtain ⟨C, hC⟩ : ∃ C, (intsC ns).toArray = C := ⟨_, rfl⟩
  rw [hC] at HIx hCs ⊢
  have hfit := hs.fit
  have hone := hs.noOne
  have hP9 := hfit.1
  have HLo := Lib.hid (fun (i : Nat) (hi8 : i < 8) (W : World) (a : Nat) (hW : T9.PT W a (T9.uF t.P i)) (hdW : Hd W) => (T9.load_any a (T9.uF t.P i) (i : Nat) (T9.textB t.P i) W hW hdW (by rw [T9.textB_size hP9 hi8]; omega)).mono (fun e w' (hh : T9.LoadGot W a (T9.uF t.P i) (i : Nat) (T9.textB t.P i) e w') => (⟨hh.2.2.1 (T9.loadC_text hfit hone hi8), by have := hh.1; rw [T9.uF_load hfit hone hi8] at this; exact this, hh.2.1⟩ : e = .returned .nilIface ∧ T9.PT w' a (T9.uF t.P (i + 1)) ∧ W.grownBy w' (some a))))
  have HI := Lib.hid hi
  have HOk := Lib.hid hok
  have HS := Lib.hid hs
  have HD := Lib.hid hd
  have HF := Lib.hid hF
  have HP := Lib.hid hP
  have HNn := Lib.hid hnn
  have HP9 := Lib.hid hP9
  have HFit := Lib.hid hfit
  clear hi hok hs hd hF hP hC hns hnn hfit hone hP9
  go_enter Tryz.func87, Tryz.ntmps87
  go_wp2_with (first
    | (go_at_call 110; (with_reducible refine (T9.tnew_any _).mono ?_); rintro e w1 ⟨rfl, pt1, g1⟩; rw [World.size_alloc] at pt1; have bC := (Blk.mk w 77 C).keep0 g1; have g01 := gb_trans (gb_alloc w (.cells C 77) none) g1; have hl8 := load_eight bC hCs; have pt1 := Lib.hid pt1; have g1 := Lib.hid g1; have bC := Lib.hid bC; have g01 := Lib.hid g01)
    | (refine M6.wpList_load_at rfl 77 (.tmp 3) rfl ⟨w.heap.size, 0, none⟩ rfl _ hl8 ?_)
    | fail)
  have zG := g01.out.size
  have hfr : ∀ j, F j → j ≠ w.heap.size + 1 := fun j hj e => by have := (HF.out _ hj).2; omega
  have hp1 : D5.PD w1 base F p (idD s q) := pd_keep HP.out (kp_none (F := fun _ => False) g01.out) (fun _ _ h => h)
  have HP1 := Lib.hid hp1
  have HFr := Lib.hid hfr
  clear hp1 hl8 hfr
  go_loopw [16] (fun v wz => ∃ i q' : Nat, i ≤ 8 ∧ v = .int .i64 (i : Nat) ∧ q' ≤ q + i ∧ D5.PD wz base F p (idD s q') ∧ (idD s q').Ok (N + q') ∧ T9.PT wz (w.heap.size + 1) (T9.uF t.P i) ∧ D5.Kp F w wz) (fun v _ => 8 - (intOf v).toNat)
  case atStart => exact ⟨0, q, by omega, rfl, by omega, HP1.out, HOk.out, by rw [T9.uF_zero]; exact pt1.out, D5.Kp.of0 g01.out⟩
  case round =>
    obtain ⟨i, q', hi8, rfl, hq, hP, hOk, hT, hK⟩ := hrel
    by_cases hlt : i < 8
    · have hix := HIx.out i hlt wr
      rw [HNn.out] at hix
      rcases HS.out.chunk i hlt with ⟨hc0, hz⟩ | ⟨hc0, _, hsec⟩
      · rw [hc0] at hix
        have HPh := Lib.hid hP
        have HOh := Lib.hid hOk
        have HKh := Lib.hid hK
        have HTh := Lib.hid hT
        have HSk := Lib.hid (uF_skip HP9.out hlt hz)
        clear hP hOk hK hT hz hc0
        go_wp2
        refine ⟨⟨i + 1, q', by omega, by simp, by omega, HPh.out, HOh.out, by rw [HSk.out]; exact HTh.out, HKh.out⟩, by simp [intOf]; omega⟩
      · have hcn : cN cs i < s.secs.length := HS.out.inn _ (mem_used.2 (.inr (.inr (.inr ⟨hc0, i, by have := HS.out.len; omega, rfl⟩))))
        have hRd := idD_read hP HI.out hOk (by omega) hcn
        rw [hsec] at hRd
        have hO := fun W => open_sealB (kd := 255) (b := T9.textB t.P i) (by omega) (by omega) (by rw [T9.textB_size HP9.out hlt]; omega) W
        obtain ⟨sb, hsb⟩ : ∃ sb, sealB 255 (T9.textB t.P i) = sb := ⟨_, rfl⟩
        rw [hsb] at hRd hO
        have hL := HLo.out i hlt
        obtain ⟨tx, htx⟩ : ∃ tx, T9.textB t.P i = tx := ⟨_, rfl⟩
        rw [htx] at hO hL
        obtain ⟨c, hc⟩ : ∃ c, cN cs i = c := ⟨_, rfl⟩
        rw [hc] at hix hRd hc0
        have hcb : (((c : Nat) : Int) == 0) = false := by simpa using hc0
        have HKh := Lib.hid hK
        have HTh := Lib.hid hT
        have HRd := Lib.hid hRd
        have HO := Lib.hid hO
        have HL := Lib.hid hL
        clear hP hOk hK hT hsec hcn hRd hO hsb hL htx hc
        go_wp2_with (first
          | (go_at_call 85; (with_reducible refine HRd.out.mono ?_); rintro e w2 ⟨rfl, hp2, hok2, hk2⟩; have hp2 := Lib.hid hp2; have hok2 := Lib.hid hok2; have hk2 := Lib.hid hk2)
          | (go_at_call 102; (with_reducible refine (HO.out _).mono ?_); rintro e w3 ⟨rfl, g3⟩; have g3 := Lib.hid g3; have hT3 := Lib.hid ((kp_pt hk2.out HTh.out (fun hf => HFr.out _ hf rfl)).keep0 g3.out); have hK3 := Lib.hid ((HKh.out.trans hk2.out).step0 g3.out); have hD3 := Lib.hid (hd_kp HD.out hK3.out (fun i hi => (HF.out i hi).1)))
          | (go_at_call 111; (with_reducible refine (HL.out _ _ hT3.out hD3.out).mono ?_); rintro e w4 ⟨rfl, hT4, g4⟩; have hT4 := Lib.hid hT4; have g4 := Lib.hid g4)
          | fail)
        refine ⟨⟨i + 1, q' + 1, by omega, by simp, by omega, pd_keep hp2.out ((D5.Kp.of0 g3.out).trans (kp_one g4.out)) (fun j hj e => HFr.out j hj e), hok2.out, hT4.out, hK3.out.step g4.out (fun j e => .inr (by cases e; omega))⟩, by simp [intOf]; omega⟩
    · obtain rfl : i = 8 := by omega
      have HPh := Lib.hid hP
      have HOh := Lib.hid hOk
      have HKh := Lib.hid hK
      have HTh := Lib.hid hT
      clear hP hOk hK hT
      go_wp2
      go_ret2
      refine ⟨w.heap.size + 1, q', rfl, by omega, hq, ?_, HPh.out, HOh.out, HKh.out⟩
      have h1 := HTh.out
      rw [T9.uF_all HP9.out] at h1
      have h2 := HS.out.offs
      rw [← h2] at h1
      exact h1
end Go.Proofs.YtliiooldlooagaaGreatDoor.J10

/-
  Where pages stand on a disk (placesOn), over this seat's translation; conditions: the disk is as Sto tells, nothing is armed and nothing waits.
-/
namespace Go.Proofs.YtliiooldlooagaaGreatDoor.J10
open Go.RowKit Go.Maps
def PlOnG (w : World) (base N q : Nat) (F : Nat → Prop) (p : Nat) (s : D5.St) (t : T9.TB) (m : List Bool) (e : Ending) (w' : World) : Prop :=
  ∃ a b q', e = .returned (.tuple #[.agg #[.pointer (some ⟨a, 0, none⟩), .pointer (some ⟨b, 0, none⟩)], .int .i64 0]) ∧ w.heap.size ≤ a ∧ w.heap.size ≤ b ∧ q' ≤ q + 8 ∧ T9.PT w' a t ∧ M6.PM w' b m ∧ D5.PD w' base F p (idD s q') ∧ (idD s q').Ok (N + q') ∧ D5.Kp F w w'
set_option maxRecDepth 100000 in
set_option maxHeartbeats 4000000 in
theorem placesOn_any {w : World} {base N q : Nat} {F : Nat → Prop} {p : Nat} {s : D5.St} {r : R8.Rt} {t : T9.TB} {m : List Bool} {V : Pgs} (hP : D5.PD w base F p (idD s q)) (hi : Idle s) (hok : (idD s q).Ok (N + q)) (hN : N + q ≤ 890000) (hs : Sto s.secs r.cs t m V) (hd : Hd w) (hF : ∀ i, F i → 4 ≤ i ∧ i < w.heap.size) :
    Calls Tryz.prog 50 #[.pointer (some ⟨p, 0, none⟩), R8.RV r] w (PlOnG w base N q F p s t m) := by
  unfold PlOnG
  have hrl : r.cs.length = 8 := hs.len
  have H := Lib.hid hs
  have HI := Lib.hid hi
  have HOk := Lib.hid hok
  have HD := Lib.hid hd
  have HF := Lib.hid hF
  have HP := Lib.hid hP
  have hi2 := pl_info2
  clear hs hi hok hd hF hP
  change Calls _ _ #[.pointer (some ⟨p, 0, none⟩), .agg (R8.rootC r).toArray] w _
  go_enter Tryz.func50, Tryz.ntmps50
  have gA := gb_alloc w (.cells (R8.rootC r).toArray 79) none
  have gB := gb_alloc (w.alloc (.cells (R8.rootC r).toArray 79)) (.cells #[.pointer none, .pointer none] 71) none
  have b3 := (Blk.mk w 79 (R8.rootC r).toArray).keep0 gB
  have b4 := Blk.mk (w.alloc (.cells (R8.rootC r).toArray 79)) 71 #[.pointer none, .pointer none]
  rw [World.size_alloc] at b4
  have g0 := gb_trans gA gB
  have hl3 := load_chunks b3 hrl
  have hT := tableOn_any (pd_keep HP.out (kp_none (F := fun _ => False) g0) (fun _ _ h => h)) HI.out HOk.out hN H.out (HD.out.keep0 g0) (fun i hi => ⟨(HF.out i hi).1, Nat.lt_of_lt_of_le (HF.out i hi).2 g0.size⟩)
  unfold TableG at hT
  have HT := Lib.hid hT
  have G0 := Lib.hid g0
  have B3 := Lib.hid b3
  have B4 := Lib.hid b4
  clear gA gB b3 b4 g0 hT
  go_wp2_with (first
    | (refine M6.wpList_load_at rfl 77 (.tmp 10) rfl ⟨w.heap.size, 2, none⟩ rfl _ hl3 ?_)
    | (go_at_call 87; (with_reducible refine HT.out.mono ?_); rintro e w1 ⟨a, q', rfl, hla, hq, pt, hp1, hok1, hk1⟩; have hla := Lib.hid hla; have hq := Lib.hid hq; have pt := Lib.hid pt; have hp1 := Lib.hid hp1; have hok1 := Lib.hid hok1; have hk1 := Lib.hid hk1)
    | fail)
  have zG := G0.out.size
  have hF0 : ∀ i, F i → i < w.heap.size := fun i hi => (HF.out i hi).2
  have gd := gb_drew w1 none
  have b3 := (hk1.out.blk B3.out (fun e => by have := hF0 _ e; omega)).keep0 gd
  have b4 := (hk1.out.blk B4.out (fun e => by have := hF0 _ e; omega)).keep0 gd
  have hp2 := pd_keep hp1.out (kp_none (F := fun _ => False) gd) (fun _ _ h => h)
  have hse := D5.dsectors_any w1.drew base F p (idD s q') hp2
  have hsl : (idD s q').secs.length = s.secs.length := rfl
  rw [hsl] at hse
  have hn1 := H.out.n1
  have hn2 := H.out.n2
  have hPl := placesOf_any (n := s.secs.length) (ns := r.cs.map Int.toNat) (L := usedL r.cs t.P) (pt.out.keep0 gd) (by rw [List.length_map]; exact hrl) (use_all hrl t.P) ((used_nodup _ _).2 H.out.apart) H.out.inn (by omega) (by omega)
  rw [← cs_ints hrl H.out.pos] at hPl
  unfold PlacesG at hPl
  rw [← H.out.map] at hPl
  have zk := hk1.out.size
  have hla' := hla.out
  refine wp_region_noPanic ?_
  refine wp_region_held_drew (S := fun w' => Blk w' w.heap.size 79 (R8.rootC r).toArray) (by kernel_rfl) b3 (fun hHeld => ?_)
  refine wpAnyH_take (i := 0) (v := ?_) (List.getElem?_toArray.trans rfl) (by kernel_rfl) (by kernel_rfl) (by kernel_rfl) (fun _ _ _ h => h) (Or.inl ⟨by rfl, ?_⟩) hHeld ?_
  rotate_left
  · intro w' hSw; go_simp; try with_reducible rfl
  try simp only [Act.put, List.setIfInBounds_toArray, List.set_cons_zero, List.set_cons_succ]
  refine wpAnyH_take (i := 2) (v := ?_) (List.getElem?_toArray.trans rfl) (by kernel_rfl) (by kernel_rfl) (by kernel_rfl) (fun _ _ _ h => h) (Or.inl ⟨by rfl, ?_⟩) hHeld ?_
  rotate_left
  · intro w' hSw; go_simp; try with_reducible rfl
  try simp only [Act.put, List.setIfInBounds_toArray, List.set_cons_zero, List.set_cons_succ]
  refine wpAnyH_take (i := 3) (v := .agg (r.cs.map (Value.int .i64)).toArray) (List.getElem?_toArray.trans rfl) (by kernel_rfl) (by kernel_rfl) (by kernel_rfl) (fun _ _ _ h => h) (Or.inl ⟨by rfl, ?_⟩) hHeld ?_
  · intro w' hSw; exact T9.exec_load _ _ rfl ⟨w.heap.size, 2, none⟩ rfl _ (load_chunks hSw hrl)
  try simp only [Act.put, List.setIfInBounds_toArray, List.set_cons_zero, List.set_cons_succ]
  refine wpAnyH_take (i := 4) (v := ?_) (List.getElem?_toArray.trans rfl) (by kernel_rfl) (by kernel_rfl) (by kernel_rfl) (fun _ _ _ h => h) (Or.inl ⟨by rfl, ?_⟩) hHeld ?_
  rotate_left
  · intro w' hSw; go_simp; try with_reducible rfl
  try simp only [Act.put, List.setIfInBounds_toArray, List.set_cons_zero, List.set_cons_succ]
  refine wpAnyH_ready (rs := [1]) (by kernel_rfl) (by simp) ?_
  refine AllReadyH.cons (List.getElem?_toArray.trans rfl) (fun K hK => ?_) AllReadyH.nil
  go_simp
  go_at_call 57
  (with_reducible refine hse.mono ?_)
  rintro e w2 ⟨rfl, rfl⟩
  refine hK.out _ _ (b3) (fun hHeld => ?_)
  clear hK K
  try simp only [Act.put, List.setIfInBounds_toArray, List.set_cons_zero, List.set_cons_succ]
  refine wpAnyH_ready (rs := [5]) (by kernel_rfl) (by simp) ?_
  refine AllReadyH.cons (List.getElem?_toArray.trans rfl) (fun K hK => ?_) AllReadyH.nil
  go_simp
  go_at_call 62
  (with_reducible refine hPl.mono ?_)
  rintro e w3 ⟨b, rfl, hlb, pm, g3⟩
  refine hK.out _ _ (b3.keep0 g3) (fun hHeld => ?_)
  clear hK K
  try simp only [Act.put, List.setIfInBounds_toArray, List.set_cons_zero, List.set_cons_succ]
  refine wpAnyH_take (i := 6) (v := ?_) (List.getElem?_toArray.trans rfl) (by kernel_rfl) (by kernel_rfl) (by kernel_rfl) (fun _ _ _ h => h) (Or.inl ⟨by rfl, ?_⟩) hHeld ?_
  rotate_left
  · intro w' hSw; go_simp; try with_reducible rfl
  try simp only [Act.put, List.setIfInBounds_toArray, List.set_cons_zero, List.set_cons_succ]
  refine wpAnyH_take (i := 7) (v := ?_) (List.getElem?_toArray.trans rfl) (by kernel_rfl) (by kernel_rfl) (by kernel_rfl) (fun _ _ _ h => h) (Or.inl ⟨by rfl, ?_⟩) hHeld ?_
  rotate_left
  · intro w' hSw; go_simp; try with_reducible rfl
  try simp only [Act.put, List.setIfInBounds_toArray, List.set_cons_zero, List.set_cons_succ]
  refine wpAnyH_ready (rs := [8]) (by kernel_rfl) (by simp) ?_
  refine AllReadyH.cons (List.getElem?_toArray.trans rfl) (fun K hK => ?_) AllReadyH.nil
  have hb4 := b4.keep0 g3
  have hi1 := pl_info (.pointer (some ⟨a, 0, none⟩)) (.pointer (some ⟨b, 0, none⟩))
  have hz1 := pl_size (.pointer none) (.pointer none) (.pointer (some ⟨a, 0, none⟩)) (.pointer (some ⟨b, 0, none⟩))
  have ho1 := pl_one (some ⟨a, 0, none⟩) (some ⟨b, 0, none⟩)
  with_reducible refine T9.stA 71 #[.pointer none, .pointer none] #[.pointer (some ⟨a, 0, none⟩), .pointer (some ⟨b, 0, none⟩)] 4 25 (w.heap.size + 1) hb4 hi1 hz1 ho1 ?_ ?_ ?_
  rfl
  rfl
  refine hK.out _ _ ((b3.keep0 g3).keep (gb_setRow' _ _ _) (ne_some (by omega))) (fun hHeld => ?_)
  clear hK K
  try simp only [Act.put, List.setIfInBounds_toArray, List.set_cons_zero, List.set_cons_succ]
  refine wpAnyH_take (i := 9) (v := ?_) (List.getElem?_toArray.trans rfl) (by kernel_rfl) (by kernel_rfl) (by kernel_rfl) (fun _ _ _ h => h) (Or.inl ⟨by rfl, ?_⟩) hHeld ?_
  rotate_left
  · intro w' hSw; go_simp; try with_reducible rfl
  try simp only [Act.put, List.setIfInBounds_toArray, List.set_cons_zero, List.set_cons_succ]
  refine wpAnyH_done (by kernel_rfl) ?_ _
  refine NoPanic.normal ?_
  have hr := load_places (blk_setRow hb4 #[.pointer (some ⟨a, 0, none⟩), .pointer (some ⟨b, 0, none⟩)]) rfl rfl
  have gE := gb_setRow' w3 (w.heap.size + 1) #[.pointer (some ⟨a, 0, none⟩), .pointer (some ⟨b, 0, none⟩)]
  have z3 := g3.size
  have zd := gd.size
  have lta := pt.out.lt
  generalize w3.setRow (w.heap.size + 1) #[.pointer (some ⟨a, 0, none⟩), .pointer (some ⟨b, 0, none⟩)] = w4 at hr gE ⊢
  clear hHeld
  go_wp2
  have hsz0 : w.heap.size + 2 = ((w.alloc (.cells (R8.rootC r).toArray 79)).alloc (.cells #[.pointer none, .pointer none] 71)).heap.size := by rw [World.size_alloc, World.size_alloc]
  have q3 := gb_trans gd g3
  refine bodyPost_ret (results_cell_tmp rfl _ _ (w.heap.size + 1) _ _ rfl rfl hr) rfl ⟨a, b, q', rfl, by omega, by omega, hq.out, (pt.out.keep0 q3).keep gE (ne_some (by omega)), pm.keep gE (ne_some (by omega)), pd_keep hp1.out ((D5.Kp.of0 q3).trans (kp_one gE)) (fun i hi e => by have := hF0 _ hi; omega), hok1.out, ?_⟩
  exact (((D5.Kp.of0 G0.out).trans hk1.out).step0 q3).step gE (fun j e => .inr (by cases e; omega))
end Go.Proofs.YtliiooldlooagaaGreatDoor.J10

/-
  Open, over this seat's translation; conditions: the disk is as Sto and Picks tell, nothing is armed and nothing waits; or there is none, or its power is off.
-/
namespace Go.Proofs.YtliiooldlooagaaGreatDoor.J10
open Go.RowKit Go.Maps
theorem open_nil (w : World) : Calls Tryz.prog 22 #[.pointer none] w fun e w' => e = .returned (.tuple #[.pointer none, .int .i64 1]) ∧ w = w' := by
  go_enter Tryz.func22, Tryz.ntmps22
  go_wp2
  go_ret2
  exact ⟨rfl, rfl⟩
def OpenG (w : World) (base N : Nat) (F : Nat → Prop) (p : Nat) (s : D5.St) (r : R8.Rt) (wh : Int) (t : T9.TB) (m : List Bool) (e : Ending) (w' : World) : Prop :=
  ∃ k q, e = .returned (.tuple #[.pointer (some ⟨k.p, 0, none⟩), .int .i64 0]) ∧ q ≤ 10 ∧ PgV w' base k ⟨idD s q, r, wh, t, m, false, false⟩ ∧ (idD s q).Ok (N + q) ∧ k.dp = p ∧ (∀ i, footG k i → F i ∨ w.heap.size ≤ i) ∧ D5.Kp F w w'
theorem built_pager (d : Option Addr) (r : R8.Rt) (hr : r.cs.length = 8) (wh : Int) (a b : Option Addr) : Tryz.prog.built 86 [(0, .pointer d), (1, R8.RV r), (2, .int .i64 wh), (3, .agg #[.pointer a, .pointer b])] = some (Value.pointer d :: (R8.rootC r ++ [.int .i64 wh, .pointer a, .pointer b, .bool false, .bool false])).toArray := by
  obtain ⟨e, n, cs⟩ := r
  obtain ⟨c0, c1, c2, c3, c4, c5, c6, c7, rfl⟩ := eight hr
  kernel_rfl
set_option maxRecDepth 100000 in
set_option maxHeartbeats 4000000 in
theorem open_any {w : World} {base N : Nat} {F : Nat → Prop} {p : Nat} {s : D5.St} {r : R8.Rt} {wh : Int} {t : T9.TB} {m : List Bool} {V : Pgs} (hP : D5.PD w base F p s) (hi : Idle s) (hok : s.Ok N) (hN : N ≤ 880000) (hr : Picks s.secs r wh) (hs : Sto s.secs r.cs t m V) (hpl : R8.Pl w) (hd : Hd w) (hb : base ≤ w.heap.size) (hF : ∀ i, F i → 4 ≤ i ∧ i < w.heap.size) :
    Calls Tryz.prog 22 #[.pointer (some ⟨p, 0, none⟩)] w (OpenG w base N F p s r wh t m) := by
  unfold OpenG
  have hrl : r.cs.length = 8 := hs.len
  have hn1 := hs.n1
  have hR := rootOn_any hP hi hok (by omega) (by omega) hr hrl hpl hF
  unfold RootG at hR
  have HR := Lib.hid hR
  have HS := Lib.hid hs
  have HI := Lib.hid hi
  have HD := Lib.hid hd
  have HF := Lib.hid hF
  have hbp := fun a b => built_pager (some ⟨p, 0, none⟩) r hrl wh (some ⟨a, 0, none⟩) (some ⟨b, 0, none⟩)
  clear hP hi hok hr hs hpl hd hF hR hn1
  go_enter Tryz.func22, Tryz.ntmps22
  go_wp2_with (first
    | (go_at_call 49; (with_reducible refine HR.out.mono ?_); rintro e w1 ⟨rfl, hp1, hok1, hk1⟩; have g1 := gb_alloc w1 (.cells (R8.rootC r).toArray 79) none; have b1 := Blk.mk w1 79 (R8.rootC r).toArray; have hl4 := R8.RB.load (r := r) b1 hrl; have hPO := placesOn_any (N := N) (pd_keep hp1 (kp_none (F := fun _ => False) g1) (fun _ _ h => h)) HI.out hok1 (by omega) HS.out (hd_kp HD.out (hk1.step0 g1) (fun i hi => (HF.out i hi).1)) (fun i hi => ⟨(HF.out i hi).1, Nat.lt_of_lt_of_le (HF.out i hi).2 (hk1.step0 g1).size⟩); unfold PlOnG at hPO; rw [World.size_alloc] at hPO; have hPO := Lib.hid hPO; have hk11 := Lib.hid (hk1.step0 g1); have hz1 := hk1.size; have hp1 := Lib.hid hp1; have hok1 := Lib.hid hok1; have hk1 := Lib.hid hk1; have b1 := Lib.hid b1; have g1 := Lib.hid g1)
    | (refine R8.stN 4 13 r hrl rfl rfl ?_)
    | (refine M6.wpList_load_at rfl 79 (.tmp 4) rfl ⟨w1.heap.size, 0, none⟩ rfl _ hl4 ?_)
    | (go_at_call 50; (with_reducible refine hPO.out.mono ?_); rintro e w2 ⟨a, b, q', rfl, hla, hlb, hq, pt, pm, hp2, hok2, hk2⟩; have b2 := (hk2.blk b1.out (fun e => by have := (HF.out _ e).2; omega)).keep0 (gb_alloc w2 (.cells #[.pointer (some ⟨a, 0, none⟩), .pointer (some ⟨b, 0, none⟩)] 71) none); have hl9 := R8.RB.load (r := r) b2 hrl; have hbab := hbp a b; have hz2 := hk2.size; rw [World.size_alloc] at hz2; have pt := Lib.hid pt; have pm := Lib.hid pm; have hp2 := Lib.hid hp2; have hok2 := Lib.hid hok2; have hk2 := Lib.hid hk2; have b2 := Lib.hid b2; have hq := Lib.hid hq)
    | (refine M6.wpList_load_at rfl 79 (.tmp 4) rfl ⟨w1.heap.size, 0, none⟩ rfl _ hl9 ?_)
    | (refine wpl_build4 rfl 86 (.tmp 28) (.tmp 29) (.tmp 30) (.tmp 31) (.pointer (some ⟨p, 0, none⟩)) (R8.RV r) (.int .i64 wh) (.agg #[.pointer (some ⟨a, 0, none⟩), .pointer (some ⟨b, 0, none⟩)]) (Value.pointer (some ⟨p, 0, none⟩) :: (R8.rootC r ++ [.int .i64 wh, .pointer (some ⟨a, 0, none⟩), .pointer (some ⟨b, 0, none⟩), .bool false, .bool false])).toArray rfl rfl rfl rfl rfl hbab ?_)
    | fail)
  go_ret2
  have gP := gb_alloc w2 (.cells #[.pointer (some ⟨a, 0, none⟩), .pointer (some ⟨b, 0, none⟩)] 71) none
  have gQ := gb_alloc (w2.alloc (.cells #[.pointer (some ⟨a, 0, none⟩), .pointer (some ⟨b, 0, none⟩)] 71)) (.cells (pgL p a b r wh false false).toArray 86) none
  have bQ := Blk.mk (w2.alloc (.cells #[.pointer (some ⟨a, 0, none⟩), .pointer (some ⟨b, 0, none⟩)] 71)) 86 (pgL p a b r wh false false).toArray
  rw [World.size_alloc] at bQ
  have g3 := gb_trans gP gQ
  obtain ⟨vs, vp, bm, D, hv, hf⟩ := hp2.out
  refine ⟨⟨w2.heap.size + 1, p, vs, vp, bm, D, a, b⟩, q', rfl, by have := hq.out; omega, ⟨bQ, pdv_frame hv (kp_none (F := fun _ => False) g3) (fun _ _ h => h), pt.out.keep0 g3, pm.out.keep0 g3, hrl, ?_, ?_, ?_⟩, hok2.out, rfl, ?_, ?_⟩
  · show base ≤ w2.heap.size + 1; omega
  · show base ≤ a; omega
  · show base ≤ b; omega
  · intro i hi
    rcases hi with h | h | h | h
    · exact .inr (by have : i = w2.heap.size + 1 := h; omega)
    · exact .inl (hf i h)
    · exact .inr (by have : i = a := h; omega)
    · exact .inr (by have : i = b := h; omega)
  · exact (hk11.out.trans hk2.out).step0 g3
end Go.Proofs.YtliiooldlooagaaGreatDoor.J10

/-
  Open where the power is off, over this seat's translation; conditions: those that each law states.
-/
namespace Go.Proofs.YtliiooldlooagaaGreatDoor.J10
open Go.RowKit Go.Maps
theorem built_zero : Tryz.prog.built 79 [] = some (R8.rootC R8.zeroR).toArray := by kernel_rfl
set_option maxRecDepth 100000 in
set_option maxHeartbeats 4000000 in
/-- The power is off: the first Read says so. -/
theorem rootOn_off {w : World} {base N : Nat} {F : Nat → Prop} {p : Nat} {s : D5.St} (hP : D5.PD w base F p s) (hok : s.Ok N) (hN : N ≤ 890000) (h0 : D5.opE s (D5.hasF s 0) = 10) (hF : ∀ i, F i → i < w.heap.size) :
    Calls Tryz.prog 49 #[.pointer (some ⟨p, 0, none⟩)] w fun e w' => e = .returned (.tuple #[R8.RV R8.zeroR, .int .i64 0, .int .i64 10]) ∧ D5.PD w' base F p (D5.opS s (D5.hasF s 0)) ∧ D5.Kp F w w' := by
  have HOk := Lib.hid hok
  have HF := Lib.hid hF
  have HP := Lib.hid hP
  have hbz := built_zero
  have hinf := R8.root_info R8.zeroR rfl
  have hone := R8.root_one R8.zeroR
  have hrd : ∀ W, D5.PD W base F p s → Calls Tryz.prog 85 #[.pointer (some ⟨p, 0, none⟩), .int .i64 0] W fun e w' => e = .returned (.tuple #[.string (D5.readS s 0), .int .i64 10]) ∧ D5.PD w' base F p (D5.opS s (D5.hasF s 0)) ∧ D5.Kp F W w' := fun W hW =>
    (D5.dread_any W base F p s 0 N hW hok (by omega) ⟨by omega, by omega⟩).mono fun e w' h => by rw [h0] at h; exact h
  have HRd := Lib.hid hrd
  clear hok hF hP hrd
  go_enter Tryz.func49, Tryz.ntmps49
  go_wp2
  obtain ⟨w0, hw0⟩ : ∃ w0, w0 = (w.alloc (.cells (R8.rootC R8.zeroR).toArray 79)).alloc (.cells #[.string ⟨#[]⟩, .string ⟨#[]⟩] 155) := ⟨_, rfl⟩
  have gA := gb_alloc w (.cells (R8.rootC R8.zeroR).toArray 79) none
  have gB := gb_alloc (w.alloc (.cells (R8.rootC R8.zeroR).toArray 79)) (.cells #[.string ⟨#[]⟩, .string ⟨#[]⟩] 155) none
  have b2 := (Blk.mk w 79 (R8.rootC R8.zeroR).toArray).keep0 gB
  have g0 := gb_trans gA gB
  rw [← hw0] at b2 g0
  change Code.wp _ _ _ _ ((w.alloc (.cells (R8.rootC R8.zeroR).toArray 79)).alloc (.cells #[.string ⟨#[]⟩, .string ⟨#[]⟩] 155))
  rw [← hw0]
  have hp0 : D5.PD w0 base F p s := pd_keep HP.out (kp_none (F := fun _ => False) g0) (fun _ _ h => h)
  clear hw0 gA gB
  have B2 := Lib.hid b2
  have G0 := Lib.hid g0
  have P0 := Lib.hid hp0
  clear b2 g0 hp0
  go_loopw [12] (fun i wz => i = .int .i64 0 ∧ wz = w0) (fun i _ => 0)
  case atStart => exact ⟨rfl, rfl⟩
  case round =>
    obtain ⟨rfl, rfl⟩ := hrel
    go_wp2_with (first
      | (go_at_call 85; (with_reducible refine (HRd.out _ P0.out).mono ?_); rintro e w1 ⟨rfl, hp1, hk1⟩; have hb2 := hk1.blk B2.out (fun e => by have := HF.out _ e; omega); have hp1 := Lib.hid hp1; have hk1 := Lib.hid hk1)
      | (refine wpl_value rfl (.agg (R8.rootC R8.zeroR).toArray) (exec_built 79 #[] rfl _ hbz) ?_)
      | (refine wpList_store_row rfl 79 (.tmp 2) (.tmp 23) rfl w.heap.size (R8.rootC R8.zeroR).toArray rfl rfl 79 _ hb2 hinf rfl hone ?_)
      | fail)
    have gs := gb_setRow' w1 w.heap.size (R8.rootC R8.zeroR).toArray
    refine bodyPost_ret (R8.results_ctt rfl _ _ w.heap.size R8.zeroR rfl (blk_setRow hb2 _) rfl) rfl ⟨rfl, pd_keep hp1.out (kp_one gs) (fun i hi e => by have := HF.out _ hi; omega), ((D5.Kp.of0 G0.out).trans hk1.out).step gs (fun q e => .inr (by cases e; omega))⟩
set_option maxRecDepth 100000 in
set_option maxHeartbeats 4000000 in
theorem open_off {w : World} {base N : Nat} {F : Nat → Prop} {p : Nat} {s : D5.St} (hP : D5.PD w base F p s) (hok : s.Ok N) (hN : N ≤ 890000) (h0 : D5.opE s (D5.hasF s 0) = 10) (hF : ∀ i, F i → i < w.heap.size) :
    Calls Tryz.prog 22 #[.pointer (some ⟨p, 0, none⟩)] w fun e w' => e = .returned (.tuple #[.pointer none, .int .i64 10]) ∧ D5.PD w' base F p (D5.opS s (D5.hasF s 0)) ∧ D5.Kp F w w' := by
  have HR := Lib.hid (rootOn_off hP hok hN h0 hF)
  clear hP hok h0
  go_enter Tryz.func22, Tryz.ntmps22
  go_wp2_with (first
    | (go_at_call 49; (with_reducible refine HR.out.mono ?_); rintro e w1 ⟨rfl, hp1, hk1⟩; have hp1 := Lib.hid hp1; have hk1 := Lib.hid hk1)
    | (refine R8.stN 4 13 R8.zeroR rfl rfl rfl ?_)
    | fail)
  go_ret2
  have g := gb_alloc w1 (.cells (R8.rootC R8.zeroR).toArray 79) none
  exact ⟨rfl, pd_keep hp1.out (kp_none (F := fun _ => False) g) (fun _ _ h => h), hk1.out.step0 g⟩
end Go.Proofs.YtliiooldlooagaaGreatDoor.J10
