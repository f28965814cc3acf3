/-
  What a disk is, as plain mathematics (its sectors, what is pending, its power), and how the program's and the document's own disk lie in memory; what each operation makes of it. No conditions beside those that each law states.
-/
import Derived.Test.YtcoegaipojnndaaDoorFp2
import Derived.Test.YtcoegaipojnndaaDoorFl2
import Derived.Maps.OwnSet
import Derived.Maps.Views
namespace Go.Proofs.YtcoegaipojnndaaDoor
open Go.RowKit Go.Maps

/-- Nothing but blocks of F was changed. -/
structure Kp (F : Nat → Prop) (w w' : World) : Prop where
  os : w'.os = w.os
  tape : w'.tape = w.tape
  output : w'.output = w.output
  size : w.heap.size ≤ w'.heap.size
  block : ∀ k, k < w.heap.size → ¬ F k → w'.heap[k]? = w.heap[k]?
theorem Kp.refl (F : Nat → Prop) (w : World) : Kp F w w := ⟨rfl, rfl, rfl, Nat.le_refl _, fun _ _ _ => rfl⟩
theorem Kp.trans {F : Nat → Prop} {a b c : World} (h : Kp F a b) (k : Kp F b c) : Kp F a c :=
  ⟨k.os.trans h.os, k.tape.trans h.tape, k.output.trans h.output, Nat.le_trans h.size k.size, fun i hi hf => (k.block i (Nat.lt_of_lt_of_le hi h.size) hf).trans (h.block i hi hf)⟩
theorem Kp.mono {F G : Nat → Prop} {a b : World} (h : Kp F a b) (hs : ∀ k, F k → G k) : Kp G a b :=
  ⟨h.os, h.tape, h.output, h.size, fun i hi hf => h.block i hi (fun e => hf (hs i e))⟩
theorem Kp.of {F : Nat → Prop} {a b : World} {r : Option Nat} (h : a.grownBy b r) (hr : ∀ k, r = some k → F k) : Kp F a b :=
  ⟨h.os, h.tape, h.output, h.size, fun i hi hf => h.block i hi (fun e => hf (hr i e.symm))⟩
theorem Kp.of0 {F : Nat → Prop} {a b : World} (h : a.grownBy b none) : Kp F a b := Kp.of h (fun _ e => by cases e)
/-- A step that writes one block, of F or a new one. -/
theorem Kp.step {F : Nat → Prop} {a b c : World} {r : Option Nat} (h : Kp F a b) (k : b.grownBy c r) (hr : ∀ j, r = some j → F j ∨ a.heap.size ≤ j) : Kp F a c :=
  ⟨k.os.trans h.os, k.tape.trans h.tape, k.output.trans h.output, Nat.le_trans h.size k.size, fun i hi hf => (k.block i (Nat.lt_of_lt_of_le hi h.size) (fun e => by
    rcases hr i e.symm with h1 | h1
    · exact hf h1
    · omega)).trans (h.block i hi hf)⟩
theorem Kp.step0 {F : Nat → Prop} {a b c : World} (h : Kp F a b) (k : b.grownBy c none) : Kp F a c := h.step k (fun _ e => by cases e)
theorem Kp.gb {F : Nat → Prop} {a b : World} {r : Option Nat} (h : Kp F a b) (hr : ∀ k, F k → r = some k ∨ a.heap.size ≤ k) : a.grownBy b r :=
  ⟨h.os, h.tape, h.output, h.size, fun i hi hne => h.block i hi (fun e => by
    rcases hr i e with h1 | h1
    · exact hne h1.symm
    · omega)⟩
theorem Kp.below {F : Nat → Prop} {a b : World} {n : Nat} (h : Kp F a b) (hF : ∀ k, F k → n ≤ k) (hn : n ≤ a.heap.size) : Below n a b :=
  ⟨h.os, h.tape, h.output, h.size, fun k hk => h.block k (by omega) (fun e => by have := hF k e; omega)⟩
theorem Kp.blk {F : Nat → Prop} {a b : World} {k : Nat} {t : TypeId} {vs : Array Value} (h : Kp F a b) (hb : Blk a k t vs) (hf : ¬ F k) : Blk b k t vs := (h.block k hb.lt hf).trans hb
theorem Kp.row {F : Nat → Prop} {a b : World} {base : Nat} {e : TypeId} {size : Nat} {v : Value} {n : Nat} {xs : List Value} (h : Kp F a b) (o : a.ownsRow base e size v n xs) (hf : ∀ k, v.ownBlock = some k → ¬ F k) : b.ownsRow base e size v n xs := by
  obtain ⟨h1, h2 | ⟨g, cap, cur, rfl, h4, h5, h6⟩⟩ := o
  · exact ⟨h1, .inl h2⟩
  · exact ⟨h1, .inr ⟨g, cap, cur, rfl, h4, (h.block g (Array.getElem?_eq_some_iff.1 h5).1 (hf g rfl)).trans h5, h6⟩⟩
theorem Kp.map {H : Type} {P : Program} {k : TypeId} {R : Value → Option (DataW H × List MemPlace)} {F : Nat → Prop} {a b : World} {m n : Nat} {D : DataW H} (h : Kp F a b) (o : a.ownsMap P k R m n D) (hf : ¬ F m) : b.ownsMap P k R m n D := by
  have hlt := o.lt
  obtain ⟨es, clock, hb, X, hs, hD⟩ := o
  exact ⟨es, clock, (h.block m hlt hf).trans hb, X, hs, hD⟩
/-- What is new. -/
def Nw (F : Nat → Prop) (w w' : World) : Nat → Prop := fun k => F k ∨ (w.heap.size ≤ k ∧ k < w'.heap.size)

/-- A disk, as plain mathematics. -/
structure St where
  secs : List ByteArray
  pend : List (Int × ByteArray)
  off : Bool
  armed : Bool
  left : Int
  ops : Int
structure St.Ok (s : St) (N : Nat) : Prop where
  len : s.secs.length ≤ 1024
  whole : Whole256 s.secs
  each : ∀ x ∈ s.pend, ∃ m : Nat, x.1 = m ∧ m < s.secs.length ∧ x.2.size = 256
  plen : s.pend.length ≤ N
  ops0 : 0 ≤ s.ops
  opsN : s.ops ≤ N
  arm : s.armed = true → 0 ≤ s.left ∧ s.left ≤ 9223372036854775807
  idle : s.armed = false → s.left = 0
/-- What an operation answers, whose arguments may be (or may not), and what it makes of the power. -/
def opE (s : St) (may : Bool) : Int := if s.off then 10 else if !may then 2 else if s.armed && !decide (0 < s.left) then 10 else 0
def opS (s : St) (may : Bool) : St :=
  if s.off then s else if !may then s else if s.armed then (if 0 < s.left then { s with left := s.left - 1, ops := s.ops + 1 } else { s with off := true, armed := false, left := 0 }) else { s with ops := s.ops + 1 }
def hasF (s : St) (i : Int) : Bool := decide (0 ≤ i) && decide (i < (s.secs.length : Int))
/-- What stands in the sector i, if the list is written over a. -/
def standF (l : List (Int × ByteArray)) (a : ByteArray) (i : Int) : ByteArray := l.foldl (fun a x => if x.1 = i then x.2 else a) a
theorem standF_snoc (l : List (Int × ByteArray)) (x : Int × ByteArray) (a : ByteArray) (i : Int) : standF (l ++ [x]) a i = if x.1 = i then x.2 else standF l a i := by
  unfold standF; rw [List.foldl_append]; rfl
theorem standF_none (l : List (Int × ByteArray)) (a : ByteArray) (i : Int) (h : ∀ x ∈ l, x.1 ≠ i) : standF l a i = a := by
  induction l generalizing a with
  | nil => rfl
  | cons x l ih =>
    show standF l (if x.1 = i then x.2 else a) i = a
    rw [if_neg (h x (List.mem_cons_self ..))]
    exact ih a (fun y hy => h y (List.mem_cons_of_mem _ hy))
def readS (s : St) (i : Int) : ByteArray := if opE s (hasF s i) = 0 then standF s.pend (s.secs.getD i.toNat noS) i else noS
def mayW (s : St) (i : Int) (d : ByteArray) : Bool := hasF s i && decide (d.size = 256)
def writeT (s : St) (i : Int) (d : ByteArray) : St := if opE s (mayW s i d) = 0 then { opS s (mayW s i d) with pend := s.pend ++ [(i, d)] } else opS s (mayW s i d)
def laidF (l : List (Int × ByteArray)) (ss : List ByteArray) : List ByteArray := l.foldl (fun ss x => ss.set x.1.toNat x.2) ss
theorem laidF_snoc (l : List (Int × ByteArray)) (x : Int × ByteArray) (ss : List ByteArray) : laidF (l ++ [x]) ss = (laidF l ss).set x.1.toNat x.2 := by unfold laidF; rw [List.foldl_append]; rfl
theorem laidF_length (l : List (Int × ByteArray)) : ∀ ss : List ByteArray, (laidF l ss).length = ss.length := by
  induction l with
  | nil => intro ss; rfl
  | cons x l ih => intro ss; show (laidF l (ss.set x.1.toNat x.2)).length = _; rw [ih, List.length_set]
theorem laidF_whole (l : List (Int × ByteArray)) (hl : ∀ x ∈ l, x.2.size = 256) : ∀ ss : List ByteArray, Whole256 ss → Whole256 (laidF l ss) := by
  induction l with
  | nil => intro ss h; exact h
  | cons x l ih =>
    intro ss h
    refine ih (fun y hy => hl y (List.mem_cons_of_mem _ hy)) _ ?_
    intro y hy
    rcases List.mem_or_eq_of_mem_set hy with h1 | h1
    · exact h y h1
    · rw [h1]; exact hl x (List.mem_cons_self ..)
def barS (s : St) : St := if opE s true = 0 then { opS s true with secs := laidF s.pend s.secs, pend := [] } else opS s true
def armS (s : St) (n : Int) : St := { s with armed := decide (0 ≤ n), left := max n 0 }
def bootS (s : St) (cs : List UInt8) : St :=
  { s with secs := afterF s.secs s.pend (cameF cs (manyN (s.pend.length : Int))) (tornF cs (manyN (s.pend.length : Int))) (atF cs (manyN (s.pend.length : Int))), pend := [], off := false, armed := false, left := 0 }

theorem St.Ok.op {s : St} {N : Nat} (h : s.Ok N) (m : Bool) : (opS s m).Ok (N + 1) := by
  have hN : s.pend.length ≤ N + 1 := Nat.le_succ_of_le h.plen
  have hO := h.opsN
  have h0 := h.ops0
  unfold opS
  split
  · exact ⟨h.len, h.whole, h.each, hN, h.ops0, by omega, h.arm, h.idle⟩
  · split
    · exact ⟨h.len, h.whole, h.each, hN, h.ops0, by omega, h.arm, h.idle⟩
    · split
      · rename_i ha
        have := h.arm ha
        split
        · exact ⟨h.len, h.whole, h.each, hN, by show 0 ≤ s.ops + 1; omega, by show s.ops + 1 ≤ _; omega, fun _ => ⟨by show 0 ≤ s.left - 1; omega, by show s.left - 1 ≤ _; omega⟩, fun e => by have : s.armed = false := e; rw [ha] at this; cases this⟩
        · exact ⟨h.len, h.whole, h.each, hN, h.ops0, by show s.ops ≤ _; omega, (fun e => by cases e), fun _ => rfl⟩
      · rename_i ha
        exact ⟨h.len, h.whole, h.each, hN, by show 0 ≤ s.ops + 1; omega, by show s.ops + 1 ≤ _; omega, fun e => absurd e ha, h.idle⟩
theorem opS_secs (s : St) (m : Bool) : (opS s m).secs = s.secs ∧ (opS s m).pend = s.pend := by
  unfold opS; split; exact ⟨rfl, rfl⟩; split; exact ⟨rfl, rfl⟩; split; split; exact ⟨rfl, rfl⟩; exact ⟨rfl, rfl⟩; exact ⟨rfl, rfl⟩
theorem opE_may {s : St} {m : Bool} (h : opE s m = 0) : m = true := by
  unfold opE at h; split at h; cases h; split at h; cases h; rename_i h1; simpa using h1
theorem mayW_parts {s : St} {i : Int} {d : ByteArray} (h : mayW s i d = true) : ∃ m : Nat, i = m ∧ m < s.secs.length ∧ d.size = 256 := by
  unfold mayW hasF at h
  simp only [Bool.and_eq_true, decide_eq_true_eq] at h
  exact ⟨i.toNat, by omega, by omega, h.2⟩
theorem hasF_parts {s : St} {i : Int} (h : hasF s i = true) : ∃ m : Nat, i = m ∧ m < s.secs.length := by
  unfold hasF at h
  simp only [Bool.and_eq_true, decide_eq_true_eq] at h
  exact ⟨i.toNat, by omega, by omega⟩
theorem St.Ok.write {s : St} {N : Nat} (h : s.Ok N) (i : Int) (d : ByteArray) : (writeT s i d).Ok (N + 1) := by
  have ho := h.op (mayW s i d)
  have he := opS_secs s (mayW s i d)
  unfold writeT
  split
  · rename_i h0
    have hp := mayW_parts (opE_may h0)
    refine ⟨ho.len, ho.whole, ?_, ?_, ho.ops0, ho.opsN, ho.arm, ho.idle⟩
    · intro x hx
      show ∃ m : Nat, x.1 = m ∧ m < (opS s (mayW s i d)).secs.length ∧ x.2.size = 256
      rw [he.1]
      rcases List.mem_append.1 hx with h1 | h1
      · exact h.each x h1
      · rw [List.mem_singleton] at h1; subst h1; exact hp
    · show (s.pend ++ [(i, d)]).length ≤ N + 1
      have := h.plen
      simp; omega
  · exact ho
theorem St.Ok.bar {s : St} {N : Nat} (h : s.Ok N) : (barS s).Ok (N + 1) := by
  have ho := h.op true
  have he := opS_secs s true
  unfold barS
  split
  · refine ⟨?_, ?_, (fun x hx => by cases hx), by simp, ho.ops0, ho.opsN, ho.arm, ho.idle⟩
    · show (laidF s.pend s.secs).length ≤ 1024
      rw [laidF_length]; exact h.len
    · exact laidF_whole s.pend (fun x hx => by obtain ⟨_, _, _, h3⟩ := h.each x hx; exact h3) s.secs h.whole
  · exact ho
theorem St.Ok.arms {s : St} {N : Nat} (h : s.Ok N) (n : Int) (hn : n ≤ 9223372036854775807) : (armS s n).Ok N :=
  ⟨h.len, h.whole, h.each, h.plen, h.ops0, h.opsN, fun _ => ⟨by show 0 ≤ max n 0; omega, by show max n 0 ≤ _; omega⟩, fun e => by
    have h1 : ¬ (0 ≤ n) := of_decide_eq_false e
    show max n 0 = 0
    omega⟩
theorem St.Ok.boot {s : St} {N : Nat} (h : s.Ok N) (cs : List UInt8) : (bootS s cs).Ok N :=
  ⟨by show (afterF _ _ _ _ _).length ≤ _; rw [afterF_length]; exact h.len, foldW_whole _ _ _ _ _ h.whole, (fun x hx => by cases hx), Nat.zero_le _, h.ops0, h.opsN, (fun e => by cases e), fun _ => rfl⟩
theorem St.Ok.more {s : St} {N M : Nat} (h : s.Ok N) (hm : N ≤ M) : s.Ok M := ⟨h.len, h.whole, h.each, Nat.le_trans h.plen hm, h.ops0, by have := h.opsN; omega, h.arm, h.idle⟩

/-- The map that tells each sector's last pending write. -/
def MapIs (D : DataW Unit) (l : List (Int × ByteArray)) : Prop :=
  ∀ i : Int, (Maps.has D (.int .i64 i) = false ∧ ∀ x ∈ l, x.1 ≠ i) ∨
    (Maps.has D (.int .i64 i) = true ∧ ∃ (c : Nat) (d : ByteArray), D.atKey (.int .i64 i) (.lit (.int .i64 0)) = .lit (.int .i64 c) ∧ l[c]? = some (i, d) ∧ ∀ a, standF l a i = d)
theorem mapIs_nil : MapIs (.map []) [] := fun i => .inl ⟨rfl, fun _ h => by cases h⟩
theorem mapIs_put {D : DataW Unit} {l : List (Int × ByteArray)} (h : MapIs D l) (hm : IsMap D) (i : Int) (d : ByteArray) : MapIs (D.put (.int .i64 i) (.lit (.int .i64 (l.length : Nat)))) (l ++ [(i, d)]) := by
  intro j
  by_cases hj : j = i
  · subst hj
    refine .inr ⟨has_put_same hm (show WideAt.IsKeyLit (.int .i64 j) from trivial) _, l.length, d, atKey_put_same hm (show WideAt.IsKeyLit (.int .i64 j) from trivial) _ _, by simp, fun a => ?_⟩
    rw [standF_snoc]; simp
  · have hne : (Lit.int .i64 j) ≠ (Lit.int .i64 i) := by intro e; cases e; exact hj rfl
    rw [has_put_other hne, atKey_put_other hne]
    rcases h j with ⟨h1, h2⟩ | ⟨h1, c, d', h2, h3, h4⟩
    · refine .inl ⟨h1, fun x hx => ?_⟩
      rcases List.mem_append.1 hx with h5 | h5
      · exact h2 x h5
      · rw [List.mem_singleton] at h5; subst h5; exact fun e => hj e.symm
    · refine .inr ⟨h1, c, d', h2, ?_, fun a => ?_⟩
      · have := (List.getElem?_eq_some_iff.1 h3).1
        rw [List.getElem?_append_left this]; exact h3
      · rw [standF_snoc, if_neg (by simp; exact fun e => hj e.symm)]; exact h4 a

theorem own_keep0' {w w' : World} {base : Nat} {e : TypeId} {size : Nat} {v : Value} {n : Nat} {xs : List Value} (h : w.ownsRow base e size v n xs) (g : w.grownBy w' none) : w'.ownsRow base e size v n xs := by
  refine h.kept g ?_
  cases hv : v.ownBlock
  · exact .inl rfl
  · exact .inr (by simp)
/-- Blocks of different kinds are different ones. -/
theorem blk_row {w : World} {b base : Nat} {t e : TypeId} {vs : Array Value} {size : Nat} {v : Value} {n : Nat} {xs : List Value} (h : Blk w b t vs) (o : w.ownsRow base e size v n xs) (hne : t ≠ e) : v.ownBlock ≠ some b := by
  obtain ⟨_, ⟨rfl, _⟩ | ⟨g, cap, cur, rfl, _, h5, _⟩⟩ := o
  · intro e; cases e
  · intro e'; cases e'; unfold Blk at h; rw [h] at h5; cases h5; exact hne rfl
theorem row_row {w : World} {base base' : Nat} {t e : TypeId} {size size' : Nat} {v v' : Value} {n n' : Nat} {xs xs' : List Value} (o : w.ownsRow base t size v n xs) (o' : w.ownsRow base' e size' v' n' xs') (hne : t ≠ e) : ∀ k, v.ownBlock = some k → v'.ownBlock ≠ some k := by
  obtain ⟨_, ⟨rfl, _⟩ | ⟨g, cap, cur, rfl, _, h5, _⟩⟩ := o
  · intro k e; cases e
  · intro k e'; cases e'; exact blk_row h5 o' hne
theorem map_row {H : Type} {P : Program} {kt : TypeId} {R : Value → Option (DataW H × List MemPlace)} {w : World} {m n : Nat} {D : DataW H} {base : Nat} {e : TypeId} {size : Nat} {v : Value} {n' : Nat} {xs : List Value} (h : w.ownsMap P kt R m n D) (o : w.ownsRow base e size v n' xs) : v.ownBlock ≠ some m := by
  obtain ⟨es, clock, hb, _⟩ := h
  obtain ⟨_, ⟨rfl, _⟩ | ⟨g, cap, cur, rfl, _, h5, _⟩⟩ := o
  · intro e; cases e
  · intro e'; cases e'; rw [hb] at h5; cases h5
theorem map_blk {H : Type} {P : Program} {kt : TypeId} {R : Value → Option (DataW H × List MemPlace)} {w : World} {m n b : Nat} {D : DataW H} {t : TypeId} {vs : Array Value} (h : w.ownsMap P kt R m n D) (hb : Blk w b t vs) : b ≠ m := by
  obtain ⟨es, clock, h1, _⟩ := h
  rintro rfl
  unfold Blk at hb
  rw [h1] at hb; cases hb

/-- The program's disk in memory: its struct is the block p; F: all blocks that are its. -/
def PDv (w : World) (base : Nat) (p : Nat) (vs vp : Value) (bm : Nat) (D : DataW Unit) (s : St) : Prop :=
  Blk w p 80 #[vs, vp, .map (some bm), .int .i64 s.ops, .bool s.off, .bool s.armed, .int .i64 s.left] ∧
  w.ownsRow base 9 1 vs s.secs.length (strsC s.secs) ∧ w.ownsRow base 35 2 vp s.pend.length (wrC s.pend) ∧
  w.ownsMap Tryd.prog 3 (plainElem Tryd.prog 3) bm s.pend.length D ∧ MapIs D s.pend ∧ base ≤ p ∧ base ≤ bm
def footP (p : Nat) (vs vp : Value) (bm : Nat) (k : Nat) : Prop := k = p ∨ k = bm ∨ vs.ownBlock = some k ∨ vp.ownBlock = some k
def PD (w : World) (base : Nat) (F : Nat → Prop) (p : Nat) (s : St) : Prop :=
  ∃ vs vp bm D, PDv w base p vs vp bm D s ∧ ∀ k, footP p vs vp bm k → F k
/-- The document's own disk. -/
def RDv (w : World) (base : Nat) (p : Nat) (vs vp : Value) (fuse : Int) (s : St) : Prop :=
  Blk w p 56 #[vs, vp, .bool s.off, .bool s.armed, .int .i64 fuse, .int .i64 s.ops] ∧
  w.ownsRow base 9 1 vs s.secs.length (strsC s.secs) ∧ w.ownsRow base 35 2 vp s.pend.length (wrC s.pend) ∧ base ≤ p ∧ (s.armed = true → fuse = s.left)
def footR (p : Nat) (vs vp : Value) (k : Nat) : Prop := k = p ∨ vs.ownBlock = some k ∨ vp.ownBlock = some k
def RD (w : World) (base : Nat) (F : Nat → Prop) (p : Nat) (s : St) : Prop :=
  ∃ vs vp fuse, RDv w base p vs vp fuse s ∧ ∀ k, footR p vs vp k → F k
theorem PD.frame {w w' : World} {base p : Nat} {F G : Nat → Prop} {s : St} (h : PD w base F p s) (g : Kp G w w') (hd : ∀ k, F k → ¬ G k) : PD w' base F p s := by
  obtain ⟨vs, vp, bm, D, ⟨h1, h2, h3, h4, h5, h6, h7⟩, hf⟩ := h
  exact ⟨vs, vp, bm, D, ⟨g.blk h1 (hd _ (hf _ (.inl rfl))), g.row h2 (fun k e => hd _ (hf _ (.inr (.inr (.inl e))))), g.row h3 (fun k e => hd _ (hf _ (.inr (.inr (.inr e))))), g.map h4 (hd _ (hf _ (.inr (.inl rfl)))), h5, h6, h7⟩, hf⟩
theorem RD.frame {w w' : World} {base p : Nat} {F G : Nat → Prop} {s : St} (h : RD w base F p s) (g : Kp G w w') (hd : ∀ k, F k → ¬ G k) : RD w' base F p s := by
  obtain ⟨vs, vp, fu, ⟨h1, h2, h3, h4, h5⟩, hf⟩ := h
  exact ⟨vs, vp, fu, ⟨g.blk h1 (hd _ (hf _ (.inl rfl))), g.row h2 (fun k e => hd _ (hf _ (.inr (.inl e)))), g.row h3 (fun k e => hd _ (hf _ (.inr (.inr e)))), h4, h5⟩, hf⟩
theorem PD.keep0 {w w' : World} {base p : Nat} {F : Nat → Prop} {s : St} (h : PD w base F p s) (g : w.grownBy w' none) : PD w' base F p s := h.frame (G := fun _ => False) (Kp.of0 g) (fun _ _ => id)
theorem RD.keep0 {w w' : World} {base p : Nat} {F : Nat → Prop} {s : St} (h : RD w base F p s) (g : w.grownBy w' none) : RD w' base F p s := h.frame (G := fun _ => False) (Kp.of0 g) (fun _ _ => id)
theorem PDv.keep0 {w w' : World} {base p : Nat} {vs vp : Value} {bm : Nat} {D : DataW Unit} {s : St} (h : PDv w base p vs vp bm D s) (g : w.grownBy w' none) : PDv w' base p vs vp bm D s := by
  obtain ⟨h1, h2, h3, h4, h5, h6, h7⟩ := h
  exact ⟨h1.keep0 g, own_keep0' h2 g, own_keep0' h3 g, h4.kept g (by simp), h5, h6, h7⟩
end Go.Proofs.YtcoegaipojnndaaDoor
