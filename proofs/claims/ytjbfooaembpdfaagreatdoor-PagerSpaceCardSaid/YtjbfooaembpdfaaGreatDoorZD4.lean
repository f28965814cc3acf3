/-
  Texts of one layer, one behind the other, each with its own sentence; conditions: those that each law states.
-/
import Derived.Laws.CopyOwn
import Derived.Test.YtjbfooaembpdfaaGreatDoorZD3
import Derived.Test.YtjbfooaembpdfaaGreatDoorZROOT2
set_option linter.unusedSimpArgs false
set_option linter.unusedVariables false

/-
  What comes of sectors (fate.After), first: lists of texts and of writes in memory, a list taken over by copy, and the fold over the writes that came; conditions: those that each law states.
-/
namespace Go.Proofs.YtjbfooaembpdfaaGreatDoor.D5
open Go.RowKit

theorem Tryz.infoStr : (Tryz.prog.info? 9).map (fun i => (i.zero, i.size, i.bytes)) = some (some (.string ⟨#[]⟩), 1, 16) := by kernel_rfl
def noS : ByteArray := ⟨#[]⟩
theorem strs_zero (n : Nat) : strsC (List.replicate n noS) = List.replicate n (Value.string noS) := by simp [strsC]
theorem make_strs (n : Nat) (z : Int) (w : World) (hz : z = (n : Int)) (hn : n ≤ 100000) : (Instr.makeSlice 63 (.int .i64 z) (.int .i64 z)).run Tryz.prog w = .ok (.slice (some ⟨w.heap.size, 0, none⟩) n n) (w.alloc (.cells (strsC (List.replicate n noS)).toArray 9)) := by
  obtain ⟨i0, hi, hz0, hz1, hz2⟩ := info_parts Tryz.infoStr
  subst hz
  have h := run_make (P := Tryz.prog) w 63 9 i0 (.string noS) Tryz.underlying63 hi hz0 .i64 .i64 (n : Int) (n : Int) (by omega) (by omega) (by rw [hz2]; omega) (by omega)
  rw [hz1, Nat.mul_one, Int.toNat_natCast, made_one _ _ rfl, ← strs_zero] at h
  exact h
theorem strs_at {l : List ByteArray} {j : Nat} (h : j < l.length) : (strsC l)[j]? = some (.string (l.getD j noS)) := by simp [strsC, h, List.getD]
theorem strs_set (ss : List ByteArray) (k : Nat) (s : ByteArray) : (strsC ss).toArray.setIfInBounds k (.string s) = (strsC (ss.set k s)).toArray := by
  rw [List.setIfInBounds_toArray]
  congr 1
  unfold strsC
  rw [List.map_set]
theorem _root_.Go.Proofs.YtjbfooaembpdfaaGreatDoor.Sts.keep0 {w w' : World} {v : Value} {l : List ByteArray} (h : Sts w v l) (g : w.grownBy w' none) : Sts w' v l := Sl.keep0 h g
theorem sts_of_blk {w : World} {b n : Nat} {l : List ByteArray} (h : Blk w b 9 (strsC l).toArray) (hn : l.length = n) : Sts w (.slice (some ⟨b, 0, none⟩) n n) l := by
  subst hn
  refine ⟨some ⟨b, 0, none⟩, l.length, rfl, Nat.le_refl _, by simp [strsC], (fun e => by cases e), ?_⟩
  intro a e j u hj
  cases e
  have := h.cell j (v := u) (by rw [List.getElem?_toArray]; exact hj)
  rw [add_lit]; exact this
set_option maxRecDepth 100000 in
/-- A list taken over into a block of its own. -/
theorem copy_strs (w : World) (v : Value) (ss : List ByteArray) (g : Nat) (hv : Sts w v ss) (hb : Blk w g 9 (strsC (List.replicate ss.length noS)).toArray) (ty : TypeId) :
    ∃ w', (Builtin.copy_ #[63, 63] ty #[.slice (some ⟨g, 0, none⟩) ss.length ss.length, v]).run Tryz.prog w = .ok (goInt ss.length) w' ∧ Blk w' g 9 (strsC ss).toArray ∧ w.grownBy w' (some g) := by
  obtain ⟨i0, hi, hz0, hz1, hz2⟩ := info_parts Tryz.infoStr
  have hsz : (Tryz.prog.info? 9).map (·.size) = some 1 := by rw [hi]; simp [hz1]
  obtain ⟨ao, cap, rfl, hc, hl, hn, hx⟩ := hv
  cases ao with
  | none =>
    have h0 := (hn rfl).1
    have h1 : ss = [] := List.length_eq_zero_iff.1 h0
    subst h1
    exact ⟨w, run_copy_none w _ _ ty 9 _ _ 0 0 0 cap Tryz.underlying63 hsz rfl, hb, gb_refl _ _⟩
  | some a =>
    have hlen : (strsC ss).length = ss.length := by simp [strsC]
    have h := run_copy_row (P := Tryz.prog) w 63 63 ty 9 g 0 ss.length ss.length a ss.length cap _ 9 (strsC ss) Tryz.underlying63 hsz hb (by rw [hlen]; simp) (hx a rfl) (by simp [strsC]) (by
      intro u hu
      unfold strsC at hu
      obtain ⟨s, _, rfl⟩ := List.mem_map.1 hu
      rfl)
    rw [hlen] at h
    refine ⟨_, h, ?_, ?_⟩
    · have hr : ((strsC (List.replicate ss.length noS)).toArray.toList.take 0 ++ strsC ss ++ (strsC (List.replicate ss.length noS)).toArray.toList.drop (0 + ss.length)).toArray = (strsC ss).toArray := by
        congr 1
        simp [strsC]
      rw [hr]
      exact setRow_heap w g _ _ _ _ hb
    · exact ⟨rfl, rfl, rfl, by simp [World.setRow], fun k _ hk => setRow_other w g k _ (by intro e; exact hk (by rw [e]))⟩
/-- Writes as cells. -/
def wrC (l : List (Int × ByteArray)) : List Value := l.flatMap fun x => [.int .i64 x.1, .string x.2]
def Wts (w : World) (v : Value) (l : List (Int × ByteArray)) : Prop := Sl 2 w v l.length (wrC l)
theorem wrC_length (l : List (Int × ByteArray)) : (wrC l).length = l.length * 2 := by
  induction l with
  | nil => rfl
  | cons x l ih => show (wrC l).length + 2 = _; rw [ih, List.length_cons]; omega
theorem wrC_at (l : List (Int × ByteArray)) (i : Nat) (x : Int × ByteArray) (h : l[i]? = some x) : (wrC l)[i * 2]? = some (.int .i64 x.1) ∧ (wrC l)[i * 2 + 1]? = some (.string x.2) := by
  induction l generalizing i with
  | nil => simp at h
  | cons y l ih =>
    cases i with
    | zero =>
      obtain rfl : y = x := by simpa using h
      exact ⟨rfl, rfl⟩
    | succ i =>
      have := ih i (by simpa using h)
      rw [show (i + 1) * 2 = i * 2 + 2 by omega]
      exact this
theorem Wts.keep0 {w w' : World} {v : Value} {l : List (Int × ByteArray)} (h : Wts w v l) (g : w.grownBy w' none) : Wts w' v l := Sl.keep0 h g
/-- One write that came. -/
def stepW (ws : List (Int × ByteArray)) (t a : Int) (ss : List ByteArray) (i : Nat) : List ByteArray :=
  match ws[i]? with
  | none => ss
  | some x => if fitsB x.1 x.2 ss.length = true then ss.set x.1.toNat (if (i : Int) = t then cutS x.2 a (ss.getD x.1.toNat noS) else x.2) else ss
def foldW (ws : List (Int × ByteArray)) (t a : Int) (ss : List ByteArray) (is : List Nat) : List ByteArray := is.foldl (stepW ws t a) ss
/-- What comes of sectors by writes and their fate. -/
def afterF (ss : List ByteArray) (ws : List (Int × ByteArray)) (b : List Bool) (t a : Int) : List ByteArray := foldW ws t a ss (cameTo b b.length)
theorem foldW_snoc (ws : List (Int × ByteArray)) (t a : Int) (ss : List ByteArray) (is : List Nat) (i : Nat) : foldW ws t a ss (is ++ [i]) = stepW ws t a (foldW ws t a ss is) i := by
  unfold foldW; rw [List.foldl_append]; rfl
theorem stepW_none (ws : List (Int × ByteArray)) (t a : Int) (ss : List ByteArray) (i : Nat) (h : ws.length ≤ i) : stepW ws t a ss i = ss := by
  unfold stepW; rw [List.getElem?_eq_none h]
theorem stepW_no (ws : List (Int × ByteArray)) (t a : Int) (ss : List ByteArray) (i : Nat) (x : Int × ByteArray) (h : ws[i]? = some x) (hf : fitsB x.1 x.2 ss.length = false) : stepW ws t a ss i = ss := by
  unfold stepW; rw [h]; simp [hf]
theorem stepW_yes (ws : List (Int × ByteArray)) (t a : Int) (ss : List ByteArray) (i : Nat) (x : Int × ByteArray) (h : ws[i]? = some x) (hf : fitsB x.1 x.2 ss.length = true) :
    stepW ws t a ss i = ss.set x.1.toNat (if (i : Int) = t then cutS x.2 a (ss.getD x.1.toNat noS) else x.2) := by
  unfold stepW; rw [h]; simp [hf]
theorem stepW_length (ws : List (Int × ByteArray)) (t a : Int) (ss : List ByteArray) (i : Nat) : (stepW ws t a ss i).length = ss.length := by
  unfold stepW
  split
  · rfl
  · split <;> simp
theorem foldW_length (ws : List (Int × ByteArray)) (t a : Int) (is : List Nat) : ∀ ss : List ByteArray, (foldW ws t a ss is).length = ss.length := by
  induction is with
  | nil => intro ss; rfl
  | cons i is ih => intro ss; show (foldW ws t a (stepW ws t a ss i) is).length = _; rw [ih, stepW_length]
theorem fits_parts {k : Int} {d : ByteArray} {n : Nat} (h : fitsB k d n = true) : ∃ m : Nat, k = m ∧ m < n ∧ d.size = 256 := by
  unfold fitsB at h
  simp only [Bool.and_eq_true, decide_eq_true_eq] at h
  obtain ⟨m, rfl⟩ := Int.eq_ofNat_of_zero_le h.1
  exact ⟨m, rfl, by omega, h.2.2⟩
/-- All are as long as a sector. -/
def Whole256 (ss : List ByteArray) : Prop := ∀ s ∈ ss, s.size = 256
theorem cutS_size (d : ByteArray) (a : Int) (had : ByteArray) (hd : d.size = 256) (hh : had.size = 256) : (cutS d a had).size = 256 := by
  have := clampN_le a
  unfold cutS
  simp only [ByteArray.size_append, ByteArray.size_extract]
  omega
theorem whole_getD {ss : List ByteArray} (h : Whole256 ss) (k : Nat) (hk : k < ss.length) : (ss.getD k noS).size = 256 := by
  have : ss.getD k noS = ss[k] := by simp [List.getD, hk]
  rw [this]; exact h _ (List.getElem_mem hk)
theorem stepW_whole {ws : List (Int × ByteArray)} {t a : Int} {ss : List ByteArray} {i : Nat} (h : Whole256 ss) : Whole256 (stepW ws t a ss i) := by
  cases hx : ws[i]? with
  | none => unfold stepW; rw [hx]; exact h
  | some x =>
    cases hf : fitsB x.1 x.2 ss.length with
    | false => rw [stepW_no ws t a ss i x hx hf]; exact h
    | true =>
      obtain ⟨m, hm, hml, hd⟩ := fits_parts hf
      rw [stepW_yes ws t a ss i x hx hf]
      intro s hs
      rcases List.mem_or_eq_of_mem_set hs with h1 | h1
      · exact h s h1
      · rw [h1]
        split
        · exact cutS_size _ _ _ hd (whole_getD h _ (by rw [hm]; exact hml))
        · exact hd
theorem foldW_whole (ws : List (Int × ByteArray)) (t a : Int) (is : List Nat) : ∀ ss : List ByteArray, Whole256 ss → Whole256 (foldW ws t a ss is) := by
  induction is with
  | nil => intro ss h; exact h
  | cons i is ih => intro ss h; exact ih _ (stepW_whole h)
/-- Those that are no writes change nothing. -/
theorem foldW_cut (ws : List (Int × ByteArray)) (t a : Int) (ss : List ByteArray) (b : List Bool) (k m : Nat) (hk : ws.length ≤ k) (hkm : k ≤ m) : foldW ws t a ss (cameTo b m) = foldW ws t a ss (cameTo b k) := by
  induction m with
  | zero => rw [show k = 0 by omega]
  | succ m ih =>
    by_cases e : k = m + 1
    · rw [e]
    · have ih' := ih (by omega)
      cases hb : b.getD m false with
      | false => rw [cameTo_no hb]; exact ih'
      | true => rw [cameTo_yes hb, foldW_snoc, stepW_none _ _ _ _ _ (by omega)]; exact ih'
theorem callsIn_round {l n : Nat} {P : Program} {f : FuncId} {args : Array Value} {w : World} {R : Ending → World → Prop} (h : Calls P f args w R) : CallsIn (Fence.wide.inRound l) n P f args w R :=
  show CallsIn Fence.wide n P f args w R from callsIn_wide.2 h
/-- An operation that is no call of a Go function, whose run is known, inside a fence. -/
theorem listIn_run {F : Fence} {n : Nat} {P : Program} {w w' : World} {ops : Array Oper} {rest : List Oper} {o : Oper} {a : Act} {Q : Exit → Act → World → Prop} {v : Value} (hg : o.guard = none) (hab : o.about P w a.eval = none) (hd : ∀ c, o.op ≠ .defer c)
    (hr : (execOp a.eval o).run P w = .ok (.value v) w') (h : wpListIn F n P ops Q rest (a.put o.dst v) w') : wpListIn F n P ops Q (o :: rest) a w := by
  refine wpListIn_plain hg fun K hK => ?_
  unfold Oper.wpIn
  refine ⟨(fun f hf => by rw [hab] at hf; cases hf), ?_⟩
  rw [Oper.semAt_plain F _ _ hd, hr]
  exact hK _ _ h
end Go.Proofs.YtjbfooaembpdfaaGreatDoor.D5

/-
  What comes of sectors (fate.After), over this seat's translation; conditions: the slices read as lists, every sector is 256 bytes long, the place fits its kind.
-/
namespace Go.Proofs.YtjbfooaembpdfaaGreatDoor.D5
open Go.RowKit Go.Shelf
attribute [local go_sem] Oper.semAt_some

def AfterGot (w : World) (ss : List ByteArray) (ws : List (Int × ByteArray)) (b : List Bool) (t a : Int) (e : Ending) (w' : World) : Prop := ∃ v, e = .returned v ∧ Sts w' v (afterF ss ws b t a) ∧ w.grownBy w' none
/-- .. in memory of the call's own. -/
def AfterNew (w : World) (ss : List ByteArray) (ws : List (Int × ByteArray)) (b : List Bool) (t a : Int) (e : Ending) (w' : World) : Prop := ∃ v, e = .returned v ∧ w'.ownsRow w.heap.size 9 1 v ss.length (strsC (afterF ss ws b t a)) ∧ w.grownBy w' none
theorem afterF_length (ss : List ByteArray) (ws : List (Int × ByteArray)) (b : List Bool) (t a : Int) : (afterF ss ws b t a).length = ss.length := by unfold afterF; exact foldW_length _ _ _ _ _
theorem owns_of_blk {w : World} {base g N : Nat} {l : List ByteArray} (h : Blk w g 9 (strsC l).toArray) (hb : base ≤ g) (hn : l.length = N) (hN : N ≤ 100000) : w.ownsRow base 9 1 (.slice (some ⟨g, 0, none⟩) N N) N (strsC l) :=
  ⟨by simp [strsC, hn], .inr ⟨g, N, (strsC l).toArray, rfl, hb, h, Nat.le_refl _, by unfold maxLen; omega, by simp [strsC, hn], List.take_of_length_le (by simp [strsC, hn])⟩⟩
theorem sts_of_row {w : World} {base N : Nat} {v : Value} {R : List ByteArray} (own : w.ownsRow base 9 1 v N (strsC R)) (h : R.length = N) : Sts w v R := by
  subst h; exact Sl.of_owns own
theorem AfterNew.got {w : World} {ss : List ByteArray} {ws : List (Int × ByteArray)} {b : List Bool} {t a : Int} {e : Ending} {w' : World} (h : AfterNew w ss ws b t a e w') : AfterGot w ss ws b t a e w' := by
  obtain ⟨v, h1, h2, h3⟩ := h
  exact ⟨v, h1, sts_of_row h2 (afterF_length ss ws b t a), h3⟩
/-- What the rounds have made of the sectors. -/
def roundW {b : List Bool} (ws : List (Int × ByteArray)) (t a : Int) (ss : List ByteArray) (pre : List (Came b)) : List ByteArray := foldW ws t a ss (pre.map fun x => x.1.2)
theorem roundW_snoc {b : List Bool} (ws : List (Int × ByteArray)) (t a : Int) (ss : List ByteArray) (pre : List (Came b)) (x : Came b) : roundW ws t a ss (pre ++ [x]) = stepW ws t a (roundW ws t a ss pre) x.1.2 := by
  unfold roundW; rw [List.map_append, List.map_cons, List.map_nil, foldW_snoc]
set_option maxRecDepth 100000 in
set_option maxHeartbeats 2000000 in
theorem after_new (vs vl v : Value) (ss : List ByteArray) (ws : List (Int × ByteArray)) (b : List Bool) (t a : Int) (w : World) (hs : Sts w vs ss) (hl : Wts w vl ws) (hv : Bls w v b) (hb : b.length ≤ 1000000) (hss : ss.length ≤ 5000) (hw : Whole256 ss)
    (h1 : -9223372036854775808 ≤ a) (h2 : a ≤ 9223372036854775807) : Calls Tryz.prog 37 #[vs, vl, .agg #[v, .int .i64 t, .int .i64 a]] w (AfterNew w ss ws b t a) := by
  have HS := Lib.hid hs
  obtain ⟨ao, cap, rfl, hnil, hcells⟩ := bls_parts hv
  obtain ⟨so, scap, rfl, _, _, hsn, hsx⟩ := hs
  obtain ⟨lo, lcap, rfl, _, _, hln, hlx⟩ := hl
  have HN := Lib.hid hnil
  have HC := Lib.hid hcells
  have HLN := Lib.hid hln
  have HLC := Lib.hid hlx
  clear hnil hcells hv hsn hsx hln hlx
  obtain ⟨N, hN⟩ : ∃ N, ss.length = N := ⟨_, rfl⟩
  refine (callsIn_wide (n := 5)).1 ?_
  refine callsIn_of_wp_marks Tryz.func37 rfl trivial ?_ rfl
  simp only [Tryz.ntmps37, List.size_toArray, List.length_cons, List.length_nil, Nat.reduceAdd, Nat.reduceSub, Array.replicate_succ, Array.replicate_zero, List.push_toArray, List.append_toArray, List.nil_append, List.cons_append]
  have mk : ∀ W, (Instr.makeSlice 63 (.int .i64 (N : Nat)) (.int .i64 (N : Nat))).run Tryz.prog W = .ok (.slice (some ⟨W.heap.size, 0, none⟩) N N) (W.alloc (.cells (strsC (List.replicate N noS)).toArray 9)) := fun W => make_strs N (N : Nat) W rfl (by omega)
  have hg4 : w.grownBy ((((w.alloc (.cells #[.slice lo ws.length lcap] 65)).alloc (.cells #[.slice ao b.length cap, .int .i64 t, .int .i64 a] 97)).alloc (.cells (strsC (List.replicate N noS)).toArray 9)).alloc (.cells #[.slice (some ⟨w.heap.size + 1 + 1, 0, none⟩) N N] 63)) none := gb_trans (gb_trans (gb_trans (gb_alloc _ _ _) (gb_alloc _ _ _)) (gb_alloc _ _ _)) (gb_alloc _ _ _)
  have k0 := (((Blk.mk w 65 #[.slice lo ws.length lcap]).keep0 (gb_alloc _ (.cells #[.slice ao b.length cap, .int .i64 t, .int .i64 a] 97) none)).keep0 (gb_alloc _ (.cells (strsC (List.replicate N noS)).toArray 9) none)).keep0 (gb_alloc _ (.cells #[.slice (some ⟨w.heap.size + 1 + 1, 0, none⟩) N N] 63) none)
  have k1 := ((Blk.mk (w.alloc (.cells #[.slice lo ws.length lcap] 65)) 97 #[.slice ao b.length cap, .int .i64 t, .int .i64 a]).keep0 (gb_alloc _ (.cells (strsC (List.replicate N noS)).toArray 9) none)).keep0 (gb_alloc _ (.cells #[.slice (some ⟨w.heap.size + 1 + 1, 0, none⟩) N N] 63) none)
  have k2 := (Blk.mk ((w.alloc (.cells #[.slice lo ws.length lcap] 65)).alloc (.cells #[.slice ao b.length cap, .int .i64 t, .int .i64 a] 97)) 9 (strsC (List.replicate N noS)).toArray).keep0 (gb_alloc _ (.cells #[.slice (some ⟨w.heap.size + 1 + 1, 0, none⟩) N N] 63) none)
  have k3 := Blk.mk (((w.alloc (.cells #[.slice lo ws.length lcap] 65)).alloc (.cells #[.slice ao b.length cap, .int .i64 t, .int .i64 a] 97)).alloc (.cells (strsC (List.replicate N noS)).toArray 9)) 63 #[.slice (some ⟨w.heap.size + 1 + 1, 0, none⟩) N N]
  simp only [World.size_alloc] at k1 k2 k3
  obtain ⟨W5, hcopy, n2, n5⟩ := copy_strs _ (.slice so ss.length scap) ss (w.heap.size + 1 + 1) (HS.out.keep0 hg4) (by rw [hN]; exact k2) 3
  rw [hN] at hcopy
  have n0 := k0.keep n5 (ne_some (by omega))
  have n1 := k1.keep n5 (ne_some (by omega))
  have n3 := k3.keep n5 (ne_some (by omega))
  have n4 := gb_step hg4 n5 (by omega)
  have hsz5 : w.heap.size + 4 ≤ W5.heap.size := by have := n5.size; simp at this; omega
  rw [hN]
  clear k0 k1 k2 k3 hg4 n5
  have HNS := Lib.hid (And.intro n0 (And.intro n1 (And.intro n2 (And.intro n3 n4))))
  have c10 := n1.cell 0 rfl
  clear n0 n1 n2 n3 n4
  gi_wp2_with (refine ⟨trivial, ?_⟩; gi_at_call 77; (with_reducible refine (callsIn_wide.2 (arrived_any _ _ _ _)).mono ?_); rintro e w' ⟨rfl, rfl⟩)
  obtain ⟨n0, n1, n2, n3, n4⟩ := HNS.out
  replace n0 := n0.keep0 (gb_alloc _ (.cells #[.slice ao b.length cap] 95) none)
  replace n1 := n1.keep0 (gb_alloc _ (.cells #[.slice ao b.length cap] 95) none)
  replace n2 := n2.keep0 (gb_alloc _ (.cells #[.slice ao b.length cap] 95) none)
  replace n3 := n3.keep0 (gb_alloc _ (.cells #[.slice ao b.length cap] 95) none)
  have n5 := Blk.mk W5 95 #[.slice ao b.length cap]
  replace n4 := gb_trans n4 (gb_alloc W5 (.cells #[.slice ao b.length cap] 95) none)
  have hsz6 : (W5.alloc (.cells #[.slice ao b.length cap] 95)).heap.size = W5.heap.size + 1 := by simp
  generalize W5.alloc (.cells #[.slice ao b.length cap] 95) = W6 at n0 n1 n2 n3 n4 n5 hsz6 ⊢
  clear HNS c10 mk hcopy
  refine wpIn_rangeFunc_ownF (a₁ := ?fr) rfl (by omega) (gf := 115) (lb := #[.pointer (some ⟨W5.heap.size, 0, none⟩)]) rfl trivial (enters_of Tryz.func115 (by kernel_rfl) rfl)
    (arrived_stops Fence.wide _ trivial rfl (by omega) W5.heap.size w.heap.size ao cap b hb W6 (by omega) (by omega) (n5.cell 0 rfl) HN.out (fun a e hp => low_of HC.out a e hp) (fun a e j u hj => n4.cell (HC.out a e j u hj) (by simp))) kept_t kept_b (Below.refl _ _) (fun _ => rfl)
    (fun pre W => Blk W w.heap.size 65 #[.slice lo ws.length lcap] ∧ Blk W (w.heap.size + 1) 97 #[.slice ao b.length cap, .int .i64 t, .int .i64 a] ∧ Blk W (w.heap.size + 1 + 1) 9 (strsC (roundW ws t a ss pre)).toArray ∧ Blk W (w.heap.size + 1 + 1 + 1) 63 #[.slice (some ⟨w.heap.size + 1 + 1, 0, none⟩) N N] ∧ Below w.heap.size w W)
    (fun c pre W => c = Code.exit 0 ∧ Blk W (w.heap.size + 1 + 1) 9 (strsC (roundW ws t a ss pre)).toArray ∧ Blk W (w.heap.size + 1 + 1 + 1) 63 #[.slice (some ⟨w.heap.size + 1 + 1, 0, none⟩) N N] ∧ Below w.heap.size w W ∧ ∃ x ∈ pre, ws.length ≤ x.1.2)
    (OwnFrom.and (blk_own _ _ _ _) (OwnFrom.and (blk_own _ _ _ _) (OwnFrom.and (blk_own _ _ _ (fun pre => (strsC (roundW ws t a ss pre)).toArray)) (OwnFrom.and (blk_own _ _ _ _) (ownFrom_below (Nat.le_refl _) (by omega))))))
    (fun _ => OwnFrom.and (fun _ _ _ _ h _ _ => h) (OwnFrom.and (blk_own _ _ _ (fun pre => (strsC (roundW ws t a ss pre)).toArray)) (OwnFrom.and (blk_own _ _ _ _) (OwnFrom.and (ownFrom_below (Nat.le_refl _) (by omega)) (fun _ _ _ _ h _ _ => h)))))
    ⟨n0, n1, n2, n3, gb_below n4⟩
    ?assign ?body ?done ?stop
  case assign =>
    intro l x W K hK
    gi_wp2
    exact hK
  case body =>
    rintro l pre x W ⟨hT0, hT1, hT2, hT3, hB⟩ hpl
    have hlenR : (roundW ws t a ss pre).length = N := by unfold roundW; rw [foldW_length, hN]
    have hwR : Whole256 (roundW ws t a ss pre) := foldW_whole ws t a _ ss hw
    have hsn := roundW_snoc ws t a ss pre x
    obtain ⟨i, hi⟩ : ∃ i, x.1.2 = i := ⟨_, rfl⟩
    have hib : i < b.length := by rw [← hi]; exact x.2.1
    rw [hi] at hsn
    have HSn := Lib.hid hsn
    have HI := Lib.hid hi
    have c0 := hT0.cell 0 rfl
    have c11 := hT1.cell 1 rfl
    have c12 := hT1.cell 2 rfl
    have c3 := hT3.cell 0 rfl
    have hl3 := hT3.lt
    have hl0 := hT0.lt
    have hl1 := hT1.lt
    have hl2 := hT2.lt
    rw [hi]
    clear hi hsn
    by_cases hiw : ws.length ≤ i
    · have hst := stepW_none ws t a (roundW ws t a ss pre) i hiw
      rw [hst] at HSn
      have hd : decide ((ws.length : Int) ≤ (i : Int)) = true := decide_eq_true (by omega)
      clear hst
      gi_wp2
      refine ⟨KeepsOthers.refl _, rfl, by rw [HSn.out]; exact hT2, hT3, hB, x, by simp, by rw [HI.out]; exact hiw⟩
    · have hd : decide ((ws.length : Int) ≤ (i : Int)) = false := decide_eq_false (by omega)
      cases lo with
      | none => have := (HLN.out rfl).1; omega
      | some y =>
        obtain ⟨⟨k, d⟩, hx⟩ : ∃ z, ws[i]? = some z := ⟨_, List.getElem?_eq_getElem (by omega)⟩
        have hc := wrC_at ws i _ hx
        have r0 := (hB.cell (cell_lt (HLC.out y rfl _ _ hc.1))).trans (HLC.out y rfl _ _ hc.1)
        have r1 := (hB.cell (cell_lt (HLC.out y rfl _ _ hc.2))).trans (HLC.out y rfl _ _ hc.2)
        have r1' : W.cell? ⟨(y.add (i * 2)).block, (y.add (i * 2)).off + 1, none⟩ = some (.string d) := by
          have : y.add (i * 2 + 1) = ⟨(y.add (i * 2)).block, (y.add (i * 2)).off + 1, none⟩ := by rw [← add_add]; rfl
          rw [← this]; exact r1
        have HX := Lib.hid hx
        have hi0 : (0 : Int) ≤ (i : Int) := by omega
        have hi1 : (i : Int) < (ws.length : Int) := by omega
        clear hc r1 hx
        have b9 := Blk.mk W 110 #[.int .i64 k, .string d]
        have g9 := gb_alloc W (.cells #[.int .i64 k, .string d] 110) none
        cases hf : fitsB k d N with
        | false =>
          have hst := stepW_no ws t a (roundW ws t a ss pre) i (k, d) HX.out (by rw [hlenR]; exact hf)
          rw [hst] at HSn
          have HF := Lib.hid hf
          clear hst hf
          gi_wp2_with (refine ⟨trivial, ?_⟩; gi_at_call 78; (with_reducible refine (callsIn_round (fits_any k d N _)).mono ?_); rintro e w2 ⟨rfl, g2⟩; rw [HF.out])
          have g3 := gb_trans g9 g2
          refine ⟨KeepsOthers.of_grownBy g3 (fun _ _ e => by cases e), fun p v _ hv => g3.cell hv (by simp), hT0.keep0 g3, hT1.keep0 g3, by rw [HSn.out]; exact hT2.keep0 g3, hT3.keep0 g3, hB.trans ((gb_below g3).mono hB.size)⟩
        | true =>
          obtain ⟨m, hm, hml, hd256⟩ := fits_parts hf
          have hm' : k = (m : Int) := hm
          clear hm
          subst hm'
          have hst := stepW_yes ws t a (roundW ws t a ss pre) i ((m : Int), d) HX.out (by rw [hlenR]; exact hf)
          rw [hst] at HSn
          have HF := Lib.hid hf
          clear hst hf
          generalize roundW ws t a ss pre = R at hT2 hlenR hwR HSn
          have hm0 : (0 : Int) ≤ (m : Int) := by omega
          have hm1 : (m : Int) < (N : Int) := by omega
          have hw9 : IntKind.i64.wrap (m : Int) = (m : Int) := IntWalk.i64_in _ (by omega)
          by_cases hit : (i : Int) = t
          · have hsn : roundW ws t a ss (pre ++ [x]) = R.set m (cutS d a (R.getD m noS)) := by rw [HSn.out, if_pos hit]; rfl
            have HS2 := Lib.hid hsn
            have hh := whole_getD hwR m (by omega)
            obtain ⟨H, hH⟩ : ∃ H, R.getD m noS = H := ⟨_, rfl⟩
            rw [hH] at hh HS2
            have HH := Lib.hid hH
            have ht1 : ((i : Int) == t) = true := by rw [hit]; simp
            clear hsn HSn hit hH
            gi_wp2_with (refine ⟨trivial, ?_⟩; gi_at_call 78; (with_reducible refine (callsIn_round (fits_any (m : Nat) d N _)).mono ?_); rintro e w2 ⟨rfl, g2⟩; rw [HF.out]; have g3 := gb_trans g9 g2; replace hT0 := hT0.keep0 g3; replace hT1 := hT1.keep0 g3; replace hT2 := hT2.keep0 g3; replace hT3 := hT3.keep0 g3; replace b9 := b9.keep0 g2; clear c0 c11 c12 c3 r0 r1'; have c11 := hT1.cell 1 rfl; have c12 := hT1.cell 2 rfl; have c3 := hT3.cell 0 rfl; have c90 := b9.cell 0 rfl; have c91 := b9.cell 1 rfl; have e91 := b9.free 1; have d0 := hT2.cell m (v := .string H) (by rw [List.getElem?_toArray, ← HH.out]; exact strs_at (by omega)); have e0 := hT2.free m)
            have hcut : ∀ w', Calls Tryz.prog 79 #[.string d, .int .i64 a, .string H] w' (CutGot w' d a H) := fun w' => cut_any d a H w' hd256 hh h1 h2
            have HCut := Lib.hid hcut
            have hn5 : ∀ w4, w2.drew.grownBy w4 none → (w4.setCell ⟨W.heap.size, 1, none⟩ (.string (cutS d a H))).cell? ⟨w.heap.size + 1, 2, none⟩ = some (.int .i64 a) ∧ (w4.setCell ⟨W.heap.size, 1, none⟩ (.string (cutS d a H))).cell? ⟨w.heap.size + 1 + 1 + 1, 0, none⟩ = some (.slice (some ⟨w.heap.size + 1 + 1, 0, none⟩) N N) ∧ (w4.setCell ⟨W.heap.size, 1, none⟩ (.string (cutS d a H))).cell? ⟨W.heap.size, 0, none⟩ = some (.int .i64 (m : Nat)) ∧ (w4.setCell ⟨W.heap.size, 1, none⟩ (.string (cutS d a H))).cell? ⟨w.heap.size + 1 + 1, m, none⟩ = some (.string H) := by
              intro w4 g4
              have g := gb_trans (gb_drew w2 none) g4
              exact ⟨((hT1.keep0 g).keep (gb_set _ _ _ _ _) (ne_some (by omega))).cell 2 rfl, ((hT3.keep0 g).keep (gb_set _ _ _ _ _) (ne_some (by omega))).cell 0 rfl, ((b9.keep0 g).set 1 _).cell 0 rfl, ((hT2.keep0 g).keep (gb_set _ _ _ _ _) (ne_some (by omega))).cell m (by rw [List.getElem?_toArray, ← HH.out]; exact strs_at (by omega))⟩
            have HN5 := Lib.hid hn5
            clear hcut hn5
            refine wpIn_region_round (S := fun w' => w'.cell? ⟨w.heap.size + 1, 2, none⟩ = some (.int .i64 a) ∧ w'.cell? ⟨w.heap.size + 1 + 1 + 1, 0, none⟩ = some (.slice (some ⟨w.heap.size + 1 + 1, 0, none⟩) N N) ∧ w'.cell? ⟨W.heap.size, 0, none⟩ = some (.int .i64 (m : Nat)) ∧ w'.cell? ⟨w.heap.size + 1 + 1, m, none⟩ = some (.string H)) (by kernel_rfl) (by kernel_rfl) ⟨c12, c3, c90, d0⟩ (fun hHeld => ?_) (by rintro ⟨_, _, h⟩; exact h)
            refine wpAnyH_take (i := 0) (v := ?_) (List.getElem?_toArray.trans rfl) (by kernel_rfl) (by kernel_rfl) (by kernel_rfl) (fun _ _ _ h => h) (Or.inl ⟨by rfl, ?_⟩) hHeld ?_
            rotate_left
            · intro w' hSw; obtain ⟨s1, s2, s3, s4⟩ := hSw; go_simp; try with_reducible rfl
            try simp only [Act.put, List.setIfInBounds_toArray, List.set_cons_zero, List.set_cons_succ]
            refine wpAnyH_take (i := 2) (v := ?_) (List.getElem?_toArray.trans rfl) (by kernel_rfl) (by kernel_rfl) (by kernel_rfl) (fun _ _ _ h => h) (Or.inl ⟨by rfl, ?_⟩) hHeld ?_
            rotate_left
            · intro w' hSw; obtain ⟨s1, s2, s3, s4⟩ := hSw; go_simp; try with_reducible rfl
            try simp only [Act.put, List.setIfInBounds_toArray, List.set_cons_zero, List.set_cons_succ]
            refine wpAnyH_take (i := 3) (v := ?_) (List.getElem?_toArray.trans rfl) (by kernel_rfl) (by kernel_rfl) (by kernel_rfl) (fun _ _ _ h => h) (Or.inl ⟨by rfl, ?_⟩) hHeld ?_
            rotate_left
            · intro w' hSw; obtain ⟨s1, s2, s3, s4⟩ := hSw; go_simp; try with_reducible rfl
            try simp only [Act.put, List.setIfInBounds_toArray, List.set_cons_zero, List.set_cons_succ]
            refine wpAnyH_take (i := 4) (v := ?_) (List.getElem?_toArray.trans rfl) (by kernel_rfl) (by kernel_rfl) (by kernel_rfl) (fun _ _ _ h => h) (Or.inl ⟨by rfl, ?_⟩) hHeld ?_
            rotate_left
            · intro w' hSw; obtain ⟨s1, s2, s3, s4⟩ := hSw; go_simp; try with_reducible rfl
            try simp only [Act.put, List.setIfInBounds_toArray, List.set_cons_zero, List.set_cons_succ]
            refine wpAnyH_take (i := 5) (v := ?_) (List.getElem?_toArray.trans rfl) (by kernel_rfl) (by kernel_rfl) (by kernel_rfl) (fun _ _ _ h => h) (Or.inl ⟨by rfl, ?_⟩) hHeld ?_
            rotate_left
            · intro w' hSw; obtain ⟨s1, s2, s3, s4⟩ := hSw; go_simp; try with_reducible rfl
            try simp only [Act.put, List.setIfInBounds_toArray, List.set_cons_zero, List.set_cons_succ]
            refine wpAnyH_take (i := 6) (v := ?_) (List.getElem?_toArray.trans rfl) (by kernel_rfl) (by kernel_rfl) (by kernel_rfl) (fun _ _ _ h => h) (Or.inl ⟨by rfl, ?_⟩) hHeld ?_
            rotate_left
            · intro w' hSw; obtain ⟨s1, s2, s3, s4⟩ := hSw; go_simp; try with_reducible rfl
            try simp only [Act.put, List.setIfInBounds_toArray, List.set_cons_zero, List.set_cons_succ]
            refine wpAnyH_take (i := 7) (v := ?_) (List.getElem?_toArray.trans rfl) (by kernel_rfl) (by kernel_rfl) (by kernel_rfl) (fun _ _ _ h => h) (Or.inl ⟨by rfl, ?_⟩) hHeld ?_
            rotate_left
            · intro w' hSw; obtain ⟨s1, s2, s3, s4⟩ := hSw; go_simp; try with_reducible rfl
            try simp only [Act.put, List.setIfInBounds_toArray, List.set_cons_zero, List.set_cons_succ]
            refine wpAnyH_take (i := 8) (v := ?_) (List.getElem?_toArray.trans rfl) (by kernel_rfl) (by kernel_rfl) (by kernel_rfl) (fun _ _ _ h => h) (Or.inl ⟨by rfl, ?_⟩) hHeld ?_
            rotate_left
            · intro w' hSw; obtain ⟨s1, s2, s3, s4⟩ := hSw; go_simp; try with_reducible rfl
            try simp only [Act.put, List.setIfInBounds_toArray, List.set_cons_zero, List.set_cons_succ]
            refine wpAnyH_ready (rs := [1]) (by kernel_rfl) (by simp) ?_
            refine AllReadyH.cons (List.getElem?_toArray.trans rfl) (fun K hK => ?_) AllReadyH.nil
            go_simp
            refine hK.out _ _ ⟨c12, c3, c90, d0⟩ (fun hHeld => ?_)
            clear hK K
            try simp only [Act.put, List.setIfInBounds_toArray, List.set_cons_zero, List.set_cons_succ]
            refine wpAnyH_ready (rs := [9]) (by kernel_rfl) (by simp) ?_
            refine AllReadyH.cons (List.getElem?_toArray.trans rfl) (fun K hK => ?_) AllReadyH.nil
            go_simp
            go_at_call 79
            (with_reducible refine (HCut.out _).mono ?_)
            rintro e w4 ⟨rfl, g4⟩
            have b94 := b9.keep0 (gb_trans (gb_drew _ _) g4)
            have c914 := b94.cell 1 rfl
            have e914 := b94.free 1
            refine hK.out _ _ ⟨g4.cell hHeld.1 (by simp), g4.cell hHeld.2.1 (by simp), g4.cell hHeld.2.2.1 (by simp), g4.cell hHeld.2.2.2 (by simp)⟩ (fun hHeld => ?_)
            clear hK K
            try simp only [Act.put, List.setIfInBounds_toArray, List.set_cons_zero, List.set_cons_succ]
            refine wpAnyH_take (i := 10) (v := ?_) (List.getElem?_toArray.trans rfl) (by kernel_rfl) (by kernel_rfl) (by kernel_rfl) (fun _ _ _ h => h) (Or.inl ⟨by rfl, ?_⟩) hHeld ?_
            rotate_left
            · intro w' hSw; obtain ⟨s1, s2, s3, s4⟩ := hSw; go_simp; try with_reducible rfl
            try simp only [Act.put, List.setIfInBounds_toArray, List.set_cons_zero, List.set_cons_succ]
            refine wpAnyH_ready (rs := [11]) (by kernel_rfl) (by simp) ?_
            refine AllReadyH.cons (List.getElem?_toArray.trans rfl) (fun K hK => ?_) AllReadyH.nil
            go_simp
            refine hK.out _ _ (HN5.out w4 g4) (fun hHeld => ?_)
            clear hK K
            try simp only [Act.put, List.setIfInBounds_toArray, List.set_cons_zero, List.set_cons_succ]
            refine wpAnyH_done (by kernel_rfl) ?_ _
            refine NoPanic.normal ?_
            have b95 := b94.set 1 (.string (cutS d a H))
            have gA := gb_trans g3 (gb_trans (gb_drew w2 none) g4)
            have hT05 := (hT0.keep0 (gb_trans (gb_drew w2 none) g4)).keep (gb_set w4 W.heap.size 1 none (.string (cutS d a H))) (ne_some (by omega))
            have hT15 := (hT1.keep0 (gb_trans (gb_drew w2 none) g4)).keep (gb_set w4 W.heap.size 1 none (.string (cutS d a H))) (ne_some (by omega))
            have hT25 := (hT2.keep0 (gb_trans (gb_drew w2 none) g4)).keep (gb_set w4 W.heap.size 1 none (.string (cutS d a H))) (ne_some (by omega))
            have hT35 := (hT3.keep0 (gb_trans (gb_drew w2 none) g4)).keep (gb_set w4 W.heap.size 1 none (.string (cutS d a H))) (ne_some (by omega))
            have gB := gb_step gA (gb_set w4 W.heap.size 1 none (.string (cutS d a H))) (Nat.le_refl _)
            clear b94 c914 e914 hHeld
            have b96 : Blk (w4.setCell ⟨W.heap.size, 1, none⟩ (.string (cutS d a H))) W.heap.size 110 #[.int .i64 (m : Nat), .string (cutS d a H)] := b95
            clear b95 HN5 HCut
            generalize w4.setCell ⟨W.heap.size, 1, none⟩ (.string (cutS d a H)) = w5 at hT05 hT15 hT25 hT35 gB b96 ⊢
            clear c11 c12 c3 c90 c91 e91 d0 e0
            have c3 := hT35.cell 0 rfl
            have c90 := b96.cell 0 rfl
            have c91 := b96.cell 1 rfl
            have d0 := hT25.cell m (v := .string H) (by rw [List.getElem?_toArray, ← HH.out]; exact strs_at (by omega))
            have e0 := hT25.free m
            gi_wp2
            exact ⟨(KeepsOthers.of_grownBy gB (fun _ _ e => by cases e)).trans (KeepsOthers.setCell _ _ _), kept_t (fun p v _ hv => gB.cell hv (by simp)) (kept_below ((Below.refl _ w5).setCell (p := ⟨w.heap.size + 1 + 1, m, none⟩) (by show w.heap.size ≤ w.heap.size + 1 + 1; omega) _)), hT05.keep (gb_set _ _ _ _ _) (ne_some (by omega)), hT15.keep (gb_set _ _ _ _ _) (ne_some (by omega)), by rw [HS2.out, ← strs_set]; exact hT25.set m _, hT35.keep (gb_set _ _ _ _ _) (ne_some (by omega)), (hB.trans ((gb_below gB).mono hB.size)).setCell (p := ⟨w.heap.size + 1 + 1, m, none⟩) (by show w.heap.size ≤ w.heap.size + 1 + 1; omega) _⟩
          · have hsn : roundW ws t a ss (pre ++ [x]) = R.set m d := by rw [HSn.out, if_neg hit]; rfl
            have HS2 := Lib.hid hsn
            have ht1 : ((i : Int) == t) = false := beq_eq_false_iff_ne.2 hit
            clear hsn HSn hit
            gi_wp2_with (refine ⟨trivial, ?_⟩; gi_at_call 78; (with_reducible refine (callsIn_round (fits_any (m : Nat) d N _)).mono ?_); rintro e w2 ⟨rfl, g2⟩; rw [HF.out]; have g3 := gb_trans g9 g2; replace hT0 := hT0.keep0 g3; replace hT1 := hT1.keep0 g3; replace hT2 := hT2.keep0 g3; replace hT3 := hT3.keep0 g3; replace b9 := b9.keep0 g2; clear c0 c11 c12 c3 r0 r1'; have c11 := hT1.cell 1 rfl; have c12 := hT1.cell 2 rfl; have c3 := hT3.cell 0 rfl; have c90 := b9.cell 0 rfl; have c91 := b9.cell 1 rfl; have e91 := b9.free 1; have d0 := hT2.cell m (v := .string (R.getD m noS)) (by rw [List.getElem?_toArray]; exact strs_at (by omega)); have e0 := hT2.free m)
            refine ⟨(KeepsOthers.of_grownBy g3 (fun _ _ e => by cases e)).trans (KeepsOthers.setCell _ _ _), kept_t (fun p v _ hv => g3.cell hv (by simp)) (kept_below ((Below.refl _ w2).setCell (p := ⟨w.heap.size + 1 + 1, m, none⟩) (by show w.heap.size ≤ w.heap.size + 1 + 1; omega) _)), hT0.keep (gb_set _ _ _ _ _) (ne_some (by omega)), hT1.keep (gb_set _ _ _ _ _) (ne_some (by omega)), by rw [HS2.out, ← strs_set]; exact hT2.set m _, hT3.keep (gb_set _ _ _ _ _) (ne_some (by omega)), (hB.trans ((gb_below g3).mono hB.size)).setCell (p := ⟨w.heap.size + 1 + 1, m, none⟩) (by show w.heap.size ≤ w.heap.size + 1 + 1; omega) _⟩
  case done =>
    rintro D ys W hD hys ⟨hT0, hT1, hT2, hT3, hB⟩ hK
    have hfin : roundW ws t a ss ys = afterF ss ws b t a := by unfold roundW afterF; rw [hys]
    have hlenR : (roundW ws t a ss ys).length = N := by unfold roundW; rw [foldW_length, hN]
    rw [hfin] at hT2 hlenR
    have c3 := hT3.cell 0 rfl
    clear hfin hys
    gi_wp2
    refine ⟨by simp, .inl ⟨_, _, rfl, run_takeDeferred hK, ?_⟩⟩
    exact ⟨_, results_tmp rfl _ _ _, _, rfl, by rw [hN]; exact owns_of_blk (hT2.keep (grownBy_putObj' _ D _) (ne_some (by omega))) (by omega) hlenR (by omega), gb_step (gb_of_below hB) (grownBy_putObj' _ D _) (by omega)⟩
  case stop =>
    rintro D c pre W hD ⟨k, hk, hk2⟩ ⟨rfl, hT2, hT3, hB, x, hx, hxw⟩ hK
    have hfin : roundW ws t a ss pre = afterF ss ws b t a := by
      unfold roundW afterF
      rw [hk2]
      have hmem : x.1.2 ∈ cameTo b k := by rw [← hk2]; exact List.mem_map.2 ⟨x, hx, rfl⟩
      obtain ⟨j, hj⟩ := List.mem_iff_getElem?.1 hmem
      have := (came_index b k j _ hj).1
      exact (foldW_cut ws t a ss b k b.length (by omega) hk).symm
    have hlenR : (roundW ws t a ss pre).length = N := by unfold roundW; rw [foldW_length, hN]
    rw [hfin] at hT2 hlenR
    have c3 := hT3.cell 0 rfl
    clear hfin hk2 hx hxw
    gi_wp2
    refine ⟨by simp, .inl ⟨_, _, rfl, run_takeDeferred hK, ?_⟩⟩
    exact ⟨_, results_tmp rfl _ _ _, _, rfl, by rw [hN]; exact owns_of_blk (hT2.keep (grownBy_putObj' _ D _) (ne_some (by omega))) (by omega) hlenR (by omega), gb_step (gb_of_below hB) (grownBy_putObj' _ D _) (by omega)⟩
theorem after_any (vs vl v : Value) (ss : List ByteArray) (ws : List (Int × ByteArray)) (b : List Bool) (t a : Int) (w : World) (hs : Sts w vs ss) (hl : Wts w vl ws) (hv : Bls w v b) (hb : b.length ≤ 1000000) (hss : ss.length ≤ 1000) (_hws : ws.length ≤ 1000) (hw : Whole256 ss)
    (h1 : -9223372036854775808 ≤ a) (h2 : a ≤ 9223372036854775807) : Calls Tryz.prog 37 #[vs, vl, .agg #[v, .int .i64 t, .int .i64 a]] w (AfterGot w ss ws b t a) :=
  (after_new vs vl v ss ws b t a w hs hl hv hb (by omega) hw h1 h2).mono fun _ _ h => h.got
end Go.Proofs.YtjbfooaembpdfaaGreatDoor.D5
