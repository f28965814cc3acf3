/-
  Texts of one layer, one behind the other, each with its own sentence; conditions: those that each law states.
-/
import Derived.Laws.CopyOwn
import Derived.Test.YtliiooldlooagaaGreatDoorZD3
import Derived.Test.YtliiooldlooagaaGreatDoorZROOT2
set_option linter.unusedSimpArgs false
set_option linter.unusedVariables false

/-
  What comes of sectors (fate.After), first: lists of texts and of writes in memory, a list taken over by copy, and the fold over the writes that came; conditions: those that each law states.
-/
namespace Go.Proofs.YtliiooldlooagaaGreatDoor.D5
open Go.RowKit

theorem Tryz.infoStr : (Tryz.prog.info? 9).map (fun i => (i.zero, i.size, i.bytes)) = some (some (.string ⟨#[]⟩), 1, 16) := by kernel_rfl
def noS : ByteArray := ⟨#[]⟩
theorem strs_zero (n : Nat) : strsC (List.replicate n noS) = List.replicate n (Value.string noS) := by simp [strsC]
theorem make_strs (n : Nat) (z : Int) (w : World) (hz : z = (n : Int)) (hn : n ≤ 100000) : (Instr.makeSlice 111 (.int .i64 z) (.int .i64 z)).run Tryz.prog w = .ok (.slice (some ⟨w.heap.size, 0, none⟩) n n) (w.alloc (.cells (strsC (List.replicate n noS)).toArray 9)) := by
  obtain ⟨i0, hi, hz0, hz1, hz2⟩ := info_parts Tryz.infoStr
  subst hz
  have h := run_make (P := Tryz.prog) w 111 9 i0 (.string noS) Tryz.underlying111 hi hz0 .i64 .i64 (n : Int) (n : Int) (by omega) (by omega) (by rw [hz2]; omega) (by omega)
  rw [hz1, Nat.mul_one, Int.toNat_natCast, made_one _ _ rfl, ← strs_zero] at h
  exact h
theorem strs_at {l : List ByteArray} {j : Nat} (h : j < l.length) : (strsC l)[j]? = some (.string (l.getD j noS)) := by simp [strsC, h, List.getD]
theorem strs_set (ss : List ByteArray) (k : Nat) (s : ByteArray) : (strsC ss).toArray.setIfInBounds k (.string s) = (strsC (ss.set k s)).toArray := by
  rw [List.setIfInBounds_toArray]
  congr 1
  unfold strsC
  rw [List.map_set]
theorem _root_.Go.Proofs.YtliiooldlooagaaGreatDoor.Sts.keep0 {w w' : World} {v : Value} {l : List ByteArray} (h : Sts w v l) (g : w.grownBy w' none) : Sts w' v l := Sl.keep0 h g
theorem sts_of_blk {w : World} {b n : Nat} {l : List ByteArray} (h : Blk w b 9 (strsC l).toArray) (hn : l.length = n) : Sts w (.slice (some ⟨b, 0, none⟩) n n) l := by
  subst hn
  refine ⟨some ⟨b, 0, none⟩, l.length, rfl, Nat.le_refl _, by simp [strsC], (fun e => by cases e), ?_⟩
  intro a e j u hj
  cases e
  have := h.cell j (v := u) (by rw [List.getElem?_toArray]; exact hj)
  rw [add_lit]; exact this
set_option maxRecDepth 100000 in
/-- A list taken over into a block of its own. -/
theorem copy_strs (w : World) (v : Value) (ss : List ByteArray) (g : Nat) (hv : Sts w v ss) (hb : Blk w g 9 (strsC (List.replicate ss.length noS)).toArray) (ty : TypeId) :
    ∃ w', (Builtin.copy_ #[111, 111] ty #[.slice (some ⟨g, 0, none⟩) ss.length ss.length, v]).run Tryz.prog w = .ok (goInt ss.length) w' ∧ Blk w' g 9 (strsC ss).toArray ∧ w.grownBy w' (some g) := by
  obtain ⟨i0, hi, hz0, hz1, hz2⟩ := info_parts Tryz.infoStr
  have hsz : (Tryz.prog.info? 9).map (·.size) = some 1 := by rw [hi]; simp [hz1]
  obtain ⟨ao, cap, rfl, hc, hl, hn, hx⟩ := hv
  cases ao with
  | none =>
    have h0 := (hn rfl).1
    have h1 : ss = [] := List.length_eq_zero_iff.1 h0
    subst h1
    exact ⟨w, run_copy_none w _ _ ty 9 _ _ 0 0 0 cap Tryz.underlying111 hsz rfl, hb, gb_refl _ _⟩
  | some a =>
    have hlen : (strsC ss).length = ss.length := by simp [strsC]
    have h := run_copy_row (P := Tryz.prog) w 111 111 ty 9 g 0 ss.length ss.length a ss.length cap _ 9 (strsC ss) Tryz.underlying111 hsz hb (by rw [hlen]; simp) (hx a rfl) (by simp [strsC]) (by
      intro u hu
      unfold strsC at hu
      obtain ⟨s, _, rfl⟩ := List.mem_map.1 hu
      rfl)
    rw [hlen] at h
    refine ⟨_, h, ?_, ?_⟩
    · have hr : ((strsC (List.replicate ss.length noS)).toArray.toList.take 0 ++ strsC ss ++ (strsC (List.replicate ss.length noS)).toArray.toList.drop (0 + ss.length)).toArray = (strsC ss).toArray := by
        congr 1
        simp [strsC]
      rw [hr]
      exact setRow_heap w g _ _ _ _ hb
    · exact ⟨rfl, rfl, rfl, by simp [World.setRow], fun k _ hk => setRow_other w g k _ (by intro e; exact hk (by rw [e]))⟩
/-- Writes as cells. -/
def wrC (l : List (Int × ByteArray)) : List Value := l.flatMap fun x => [.int .i64 x.1, .string x.2]
def Wts (w : World) (v : Value) (l : List (Int × ByteArray)) : Prop := Sl 2 w v l.length (wrC l)
theorem wrC_length (l : List (Int × ByteArray)) : (wrC l).length = l.length * 2 := by
  induction l with
  | nil => rfl
  | cons x l ih => show (wrC l).length + 2 = _; rw [ih, List.length_cons]; omega
theorem wrC_at (l : List (Int × ByteArray)) (i : Nat) (x : Int × ByteArray) (h : l[i]? = some x) : (wrC l)[i * 2]? = some (.int .i64 x.1) ∧ (wrC l)[i * 2 + 1]? = some (.string x.2) := by
  induction l generalizing i with
  | nil => simp at h
  | cons y l ih =>
    cases i with
    | zero =>
      obtain rfl : y = x := by simpa using h
      exact ⟨rfl, rfl⟩
    | succ i =>
      have := ih i (by simpa using h)
      rw [show (i + 1) * 2 = i * 2 + 2 by omega]
      exact this
theorem Wts.keep0 {w w' : World} {v : Value} {l : List (Int × ByteArray)} (h : Wts w v l) (g : w.grownBy w' none) : Wts w' v l := Sl.keep0 h g
/-- One write that came. -/
def stepW (ws : List (Int × ByteArray)) (t a : Int) (ss : List ByteArray) (i : Nat) : List ByteArray :=
  match ws[i]? with
  | none => ss
  | some x => if fitsB x.1 x.2 ss.length = true then ss.set x.1.toNat (if (i : Int) = t then cutS x.2 a (ss.getD x.1.toNat noS) else x.2) else ss
def foldW (ws : List (Int × ByteArray)) (t a : Int) (ss : List ByteArray) (is : List Nat) : List ByteArray := is.foldl (stepW ws t a) ss
/-- What comes of sectors by writes and their fate. -/
def afterF (ss : List ByteArray) (ws : List (Int × ByteArray)) (b : List Bool) (t a : Int) : List ByteArray := foldW ws t a ss (cameTo b b.length)
theorem foldW_snoc (ws : List (Int × ByteArray)) (t a : Int) (ss : List ByteArray) (is : List Nat) (i : Nat) : foldW ws t a ss (is ++ [i]) = stepW ws t a (foldW ws t a ss is) i := by
  unfold foldW; rw [List.foldl_append]; rfl
theorem stepW_none (ws : List (Int × ByteArray)) (t a : Int) (ss : List ByteArray) (i : Nat) (h : ws.length ≤ i) : stepW ws t a ss i = ss := by
  unfold stepW; rw [List.getElem?_eq_none h]
theorem stepW_no (ws : List (Int × ByteArray)) (t a : Int) (ss : List ByteArray) (i : Nat) (x : Int × ByteArray) (h : ws[i]? = some x) (hf : fitsB x.1 x.2 ss.length = false) : stepW ws t a ss i = ss := by
  unfold stepW; rw [h]; simp [hf]
theorem stepW_yes (ws : List (Int × ByteArray)) (t a : Int) (ss : List ByteArray) (i : Nat) (x : Int × ByteArray) (h : ws[i]? = some x) (hf : fitsB x.1 x.2 ss.length = true) :
    stepW ws t a ss i = ss.set x.1.toNat (if (i : Int) = t then cutS x.2 a (ss.getD x.1.toNat noS) else x.2) := by
  unfold stepW; rw [h]; simp [hf]
theorem stepW_length (ws : List (Int × ByteArray)) (t a : Int) (ss : List ByteArray) (i : Nat) : (stepW ws t a ss i).length = ss.length := by
  unfold stepW
  split
  · rfl
  · split <;> simp
theorem foldW_length (ws : List (Int × ByteArray)) (t a : Int) (is : List Nat) : ∀ ss : List ByteArray, (foldW ws t a ss is).length = ss.length := by
  induction is with
  | nil => intro ss; rfl
  | cons i is ih => intro ss; show (foldW ws t a (stepW ws t a ss i) is).length = _; rw [ih, stepW_length]
theorem fits_parts {k : Int} {d : ByteArray} {n : Nat} (h : fitsB k d n = true) : ∃ m : Nat, k = m ∧ m < n ∧ d.size = 256 := by
  unfold fitsB at h
  simp only [Bool.and_eq_true, decide_eq_true_eq] at h
  obtain ⟨m, rfl⟩ := Int.eq_ofNat_of_zero_le h.1
  exact ⟨m, rfl, by omega, h.2.2⟩
/-- All are as long as a sector. -/
def Whole256 (ss : List ByteArray) : Prop := ∀ s ∈ ss, s.size = 256
theorem cutS_size (d : ByteArray) (a : Int) (had : ByteArray) (hd : d.size = 256) (hh : had.size = 256) : (cutS d a had).size = 256 := by
  have := clampN_le a
  unfold cutS
  simp only [ByteArray.size_append, ByteArray.size_extract]
  omega
theorem whole_getD {ss : List ByteArray} (h : Whole256 ss) (k : Nat) (hk : k < ss.length) : (ss.getD k noS).size = 256 := by
  have : ss.getD k noS = ss[k] := by simp [List.getD, hk]
  rw [this]; exact h _ (List.getElem_mem hk)
theorem stepW_whole {ws : List (Int × ByteArray)} {t a : Int} {ss : List ByteArray} {i : Nat} (h : Whole256 ss) : Whole256 (stepW ws t a ss i) := by
  cases hx : ws[i]? with
  | none => unfold stepW; rw [hx]; exact h
  | some x =>
    cases hf : fitsB x.1 x.2 ss.length with
    | false => rw [stepW_no ws t a ss i x hx hf]; exact h
    | true =>
      obtain ⟨m, hm, hml, hd⟩ := fits_parts hf
      rw [stepW_yes ws t a ss i x hx hf]
      intro s hs
      rcases List.mem_or_eq_of_mem_set hs with h1 | h1
      · exact h s h1
      · rw [h1]
        split
        · exact cutS_size _ _ _ hd (whole_getD h _ (by rw [hm]; exact hml))
        · exact hd
theorem foldW_whole (ws : List (Int × ByteArray)) (t a : Int) (is : List Nat) : ∀ ss : List ByteArray, Whole256 ss → Whole256 (foldW ws t a ss is) := by
  induction is with
  | nil => intro ss h; exact h
  | cons i is ih => intro ss h; exact ih _ (stepW_whole h)
/-- Those that are no writes change nothing. -/
theorem foldW_cut (ws : List (Int × ByteArray)) (t a : Int) (ss : List ByteArray) (b : List Bool) (k m : Nat) (hk : ws.length ≤ k) (hkm : k ≤ m) : foldW ws t a ss (cameTo b m) = foldW ws t a ss (cameTo b k) := by
  induction m with
  | zero => rw [show k = 0 by omega]
  | succ m ih =>
    by_cases e : k = m + 1
    · rw [e]
    · have ih' := ih (by omega)
      cases hb : b.getD m false with
      | false => rw [cameTo_no hb]; exact ih'
      | true => rw [cameTo_yes hb, foldW_snoc, stepW_none _ _ _ _ _ (by omega)]; exact ih'
theorem callsIn_round {l n : Nat} {P : Program} {f : FuncId} {args : Array Value} {w : World} {R : Ending → World → Prop} (h : Calls P f args w R) : CallsIn (Fence.wide.inRound l) n P f args w R :=
  show CallsIn Fence.wide n P f args w R from callsIn_wide.2 h
/-- An operation that is no call of a Go function, whose run is known, inside a fence. -/
theorem listIn_run {F : Fence} {n : Nat} {P : Program} {w w' : World} {ops : Array Oper} {rest : List Oper} {o : Oper} {a : Act} {Q : Exit → Act → World → Prop} {v : Value} (hg : o.guard = none) (hab : o.about P w a.eval = none) (hd : ∀ c, o.op ≠ .defer c)
    (hr : (execOp a.eval o).run P w = .ok (.value v) w') (h : wpListIn F n P ops Q rest (a.put o.dst v) w') : wpListIn F n P ops Q (o :: rest) a w := by
  refine wpListIn_plain hg fun K hK => ?_
  unfold Oper.wpIn
  refine ⟨(fun f hf => by rw [hab] at hf; cases hf), ?_⟩
  rw [Oper.semAt_plain F _ _ hd, hr]
  exact hK _ _ h
end Go.Proofs.YtliiooldlooagaaGreatDoor.D5

/-
  What comes of sectors (fate.After), over this seat's translation; conditions: the slices read as lists, every sector is 256 bytes long, the place fits its kind.
-/
namespace Go.Proofs.YtliiooldlooagaaGreatDoor.D5
open Go.RowKit Go.Shelf
attribute [local go_sem] Oper.semAt_some

def AfterGot (w : World) (ss : List ByteArray) (ws : List (Int × ByteArray)) (b : List Bool) (t a : Int) (e : Ending) (w' : World) : Prop := ∃ v, e = .returned v ∧ Sts w' v (afterF ss ws b t a) ∧ w.grownBy w' none
/-- .. in memory of the call's own. -/
def AfterNew (w : World) (ss : List ByteArray) (ws : List (Int × ByteArray)) (b : List Bool) (t a : Int) (e : Ending) (w' : World) : Prop := ∃ v, e = .returned v ∧ w'.ownsRow w.heap.size 9 1 v ss.length (strsC (afterF ss ws b t a)) ∧ w.grownBy w' none
theorem afterF_length (ss : List ByteArray) (ws : List (Int × ByteArray)) (b : List Bool) (t a : Int) : (afterF ss ws b t a).length = ss.length := by unfold afterF; exact foldW_length _ _ _ _ _
theorem owns_of_blk {w : World} {base g N : Nat} {l : List ByteArray} (h : Blk w g 9 (strsC l).toArray) (hb : base ≤ g) (hn : l.length = N) (hN : N ≤ 100000) : w.ownsRow base 9 1 (.slice (some ⟨g, 0, none⟩) N N) N (strsC l) :=
  ⟨by simp [strsC, hn], .inr ⟨g, N, (strsC l).toArray, rfl, hb, h, Nat.le_refl _, by unfold maxLen; omega, by simp [strsC, hn], List.take_of_length_le (by simp [strsC, hn])⟩⟩
theorem sts_of_row {w : World} {base N : Nat} {v : Value} {R : List ByteArray} (own : w.ownsRow base 9 1 v N (strsC R)) (h : R.length = N) : Sts w v R := by
  subst h; exact Sl.of_owns own
theorem AfterNew.got {w : World} {ss : List ByteArray} {ws : List (Int × ByteArray)} {b : List Bool} {t a : Int} {e : Ending} {w' : World} (h : AfterNew w ss ws b t a e w') : AfterGot w ss ws b t a e w' := by
  obtain ⟨v, h1, h2, h3⟩ := h
  exact ⟨v, h1, sts_of_row h2 (afterF_length ss ws b t a), h3⟩
/-- What the rounds have made of the sectors. -/
def roundW {b : List Bool} (ws : List (Int × ByteArray)) (t a : Int) (ss : List ByteArray) (pre : List (Came b)) : List ByteArray := foldW ws t a ss (pre.map fun x => x.1.2)
theorem roundW_snoc {b : List Bool} (ws : List (Int × ByteArray)) (t a : Int) (ss : List ByteArray) (pre : List (Came b)) (x : Came b) : roundW ws t a ss (pre ++ [x]) = stepW ws t a (roundW ws t a ss pre) x.1.2 := by
  unfold roundW; rw [List.map_append, List.map_cons, List.map_nil, foldW_snoc]
end Go.Proofs.YtliiooldlooagaaGreatDoor.D5
