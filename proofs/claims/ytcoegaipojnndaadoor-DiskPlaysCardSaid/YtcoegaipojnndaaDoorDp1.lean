/-
  Two disks side by side, the program's and the document's, and acts that came in as an argument, over this seat's translation; no conditions beside those that each law states.
-/
import Derived.Test.YtcoegaipojnndaaDoorDw2
namespace Go.Proofs.YtcoegaipojnndaaDoor
open Go.RowKit Go.Maps

theorem PD.mono {w : World} {base p : Nat} {F G : Nat → Prop} {s : St} (h : PD w base F p s) (hs : ∀ k, F k → G k) : PD w base G p s := by
  obtain ⟨vs, vp, bm, D, hv, hf⟩ := h; exact ⟨vs, vp, bm, D, hv, fun k hk => hs k (hf k hk)⟩
theorem RD.mono {w : World} {base p : Nat} {F G : Nat → Prop} {s : St} (h : RD w base F p s) (hs : ∀ k, F k → G k) : RD w base G p s := by
  obtain ⟨vs, vp, f, hv, hf⟩ := h; exact ⟨vs, vp, f, hv, fun k hk => hs k (hf k hk)⟩
/-- Both disks, in memory from base on that they do not share. X: blocks that are neither's. -/
def Two (w : World) (base p r x : Nat) (s t : St) : Prop :=
  ∃ F G, PD w base F p s ∧ RD w base G r t ∧ (∀ k, F k → ¬ G k) ∧ (∀ k, F k → base ≤ k ∧ k < w.heap.size ∧ k ≠ x) ∧ (∀ k, G k → base ≤ k ∧ k < w.heap.size ∧ k ≠ x) ∧ base ≤ w.heap.size ∧ x < w.heap.size
theorem Two.prog {w w' : World} {base p r x : Nat} {t s' : St} {F G : Nat → Prop} (hR : RD w base G r t) (hd : ∀ k, F k → ¬ G k) (hF : ∀ k, F k → base ≤ k ∧ k < w.heap.size ∧ k ≠ x) (hG : ∀ k, G k → base ≤ k ∧ k < w.heap.size ∧ k ≠ x) (hb : base ≤ w.heap.size) (hx : x < w.heap.size)
    (h1 : PD w' base (Nw F w w') p s') (h2 : Kp F w w') : Two w' base p r x s' t ∧ Kp (fun k => base ≤ k ∧ k ≠ x) w w' := by
  have hs := h2.size
  refine ⟨⟨Nw F w w', G, h1, hR.frame h2 (fun k g f => hd k f g), ?_, ?_, ?_, by omega, by omega⟩, h2.mono (fun k hk => ⟨(hF k hk).1, (hF k hk).2.2⟩)⟩
  · intro k hk hg
    rcases hk with h | h
    · exact hd k h hg
    · have := (hG k hg).2.1; omega
  · intro k hk
    rcases hk with h | h
    · have := hF k h; exact ⟨this.1, by omega, this.2.2⟩
    · exact ⟨by omega, h.2, by omega⟩
  · intro k hk
    have := hG k hk; exact ⟨this.1, by omega, this.2.2⟩
theorem Two.ref {w w' : World} {base p r x : Nat} {s t' : St} {F G : Nat → Prop} (hP : PD w base F p s) (hd : ∀ k, F k → ¬ G k) (hF : ∀ k, F k → base ≤ k ∧ k < w.heap.size ∧ k ≠ x) (hG : ∀ k, G k → base ≤ k ∧ k < w.heap.size ∧ k ≠ x) (hb : base ≤ w.heap.size) (hx : x < w.heap.size)
    (h1 : RD w' base (Nw G w w') r t') (h2 : Kp G w w') : Two w' base p r x s t' ∧ Kp (fun k => base ≤ k ∧ k ≠ x) w w' := by
  have hs := h2.size
  refine ⟨⟨F, Nw G w w', hP.frame h2 hd, h1, ?_, ?_, ?_, by omega, by omega⟩, h2.mono (fun k hk => ⟨(hG k hk).1, (hG k hk).2.2⟩)⟩
  · intro k hf hk
    rcases hk with h | h
    · exact hd k hf h
    · have := (hF k hf).2.1; omega
  · intro k hk
    have := hF k hk; exact ⟨this.1, by omega, this.2.2⟩
  · intro k hk
    rcases hk with h | h
    · have := hG k h; exact ⟨this.1, by omega, this.2.2⟩
    · exact ⟨by omega, h.2, by omega⟩
theorem Two.keep0 {w w' : World} {base p r x : Nat} {s t : St} (h : Two w base p r x s t) (g : w.grownBy w' none) : Two w' base p r x s t := by
  obtain ⟨F, G, h1, h2, h3, h4, h5, h6, h7⟩ := h
  have hs := g.size
  exact ⟨F, G, h1.keep0 g, h2.keep0 g, h3, fun k hk => ⟨(h4 k hk).1, by have := (h4 k hk).2.1; omega, (h4 k hk).2.2⟩, fun k hk => ⟨(h5 k hk).1, by have := (h5 k hk).2.1; omega, (h5 k hk).2.2⟩, by omega, by omega⟩
/-- Another block that is neither's. -/
theorem Two.at {w : World} {base p r x : Nat} {s t : St} (h : Two w base p r x s t) {w' : World} (g : w.grownBy w' none) {y : Nat} (hy : w.heap.size ≤ y) (hy' : y < w'.heap.size) : Two w' base p r y s t := by
  obtain ⟨F, G, h1, h2, h3, h4, h5, h6, h7⟩ := h
  have hs := g.size
  exact ⟨F, G, h1.keep0 g, h2.keep0 g, h3, fun k hk => ⟨(h4 k hk).1, by have := (h4 k hk).2.1; omega, by have := (h4 k hk).2.1; omega⟩, fun k hk => ⟨(h5 k hk).1, by have := (h5 k hk).2.1; omega, by have := (h5 k hk).2.1; omega⟩, by omega, hy'⟩
/-- What a step of one of both leaves. -/
def Stay (base x : Nat) (w w' : World) : Prop := Kp (fun k => base ≤ k ∧ k ≠ x) w w'
theorem Stay.blk {base x : Nat} {w w' : World} (h : Stay base x w w') {t : TypeId} {vs : Array Value} (hb : Blk w x t vs) : Blk w' x t vs := Kp.blk h hb (fun e => e.2 rfl)
theorem Stay.below {base x : Nat} {w w' : World} (h : Stay base x w w') (hb : base ≤ w.heap.size) : Below base w w' := Kp.below h (fun _ e => e.1) hb
theorem Two.base {w : World} {base p r x : Nat} {s t : St} (h : Two w base p r x s t) : base ≤ w.heap.size := by obtain ⟨_, _, _, _, _, _, _, h, _⟩ := h; exact h
theorem Two.after {w w' : World} {base p r x : Nat} {s t : St} (_ : Two w base p r x s t) (h : Two w' base p r x s t) : base ≤ w'.heap.size := h.base

theorem p_read {w : World} {base p r x : Nat} {s t : St} (h : Two w base p r x s t) (i : Int) {N : Nat} (hok : s.Ok N) (hN : N ≤ 5000) (hi : -9223372036854775808 ≤ i ∧ i ≤ 9223372036854775807) (s' : St) (hs : opS s (hasF s i) = s') :
    Calls Tryd.prog 16 #[.pointer (some ⟨p, 0, none⟩), .int .i64 i] w fun e w' => e = .returned (.tuple #[.string (readS s i), .int .i64 (opE s (hasF s i))]) ∧ Two w' base p r x s' t ∧ Stay base x w w' := by
  subst hs
  obtain ⟨F, G, h1, h2, h3, h4, h5, h6, h7⟩ := h
  exact (dread_any w base F p s i N h1 hok hN hi).mono fun e w' h' => ⟨h'.1, Two.prog h2 h3 h4 h5 h6 h7 (h'.2.1.mono fun k hk => .inl hk) h'.2.2⟩
theorem r_read {w : World} {base p r x : Nat} {s t : St} (h : Two w base p r x s t) (i : Int) {N : Nat} (hok : t.Ok N) (hN : N ≤ 5000) (t' : St) (hs : opS t (hasF t i) = t') :
    Calls Tryd.prog 17 #[.pointer (some ⟨r, 0, none⟩), .int .i64 i] w fun e w' => e = .returned (.tuple #[.string (readS t i), .int .i64 (opE t (hasF t i))]) ∧ Two w' base p r x s t' ∧ Stay base x w w' := by
  subst hs
  obtain ⟨F, G, h1, h2, h3, h4, h5, h6, h7⟩ := h
  exact (rread_any w base G r t i N h2 hok hN).mono fun e w' h' => ⟨h'.1, Two.ref h1 h3 h4 h5 h6 h7 (h'.2.1.mono fun k hk => .inl hk) h'.2.2⟩
theorem p_write {w : World} {base p r x : Nat} {s t : St} (h : Two w base p r x s t) (i : Int) (d : ByteArray) {N : Nat} (hok : s.Ok N) (hN : N ≤ 5000) (hi : -9223372036854775808 ≤ i ∧ i ≤ 9223372036854775807) (s' : St) (hs : writeT s i d = s') :
    Calls Tryd.prog 18 #[.pointer (some ⟨p, 0, none⟩), .int .i64 i, .string d] w fun e w' => e = .returned (.int .i64 (opE s (mayW s i d))) ∧ Two w' base p r x s' t ∧ Stay base x w w' := by
  subst hs
  obtain ⟨F, G, h1, h2, h3, h4, h5, h6, h7⟩ := h
  exact (dwrite_any w base F p s i d N h1 hok hN h6 hi).mono fun e w' h' => ⟨h'.1, Two.prog h2 h3 h4 h5 h6 h7 h'.2.1 h'.2.2⟩
theorem r_write {w : World} {base p r x : Nat} {s t : St} (h : Two w base p r x s t) (i : Int) (d : ByteArray) {N : Nat} (hok : t.Ok N) (hN : N ≤ 5000) (t' : St) (hs : writeT t i d = t') :
    Calls Tryd.prog 20 #[.pointer (some ⟨r, 0, none⟩), .int .i64 i, .string d] w fun e w' => e = .returned (.int .i64 (opE t (mayW t i d))) ∧ Two w' base p r x s t' ∧ Stay base x w w' := by
  subst hs
  obtain ⟨F, G, h1, h2, h3, h4, h5, h6, h7⟩ := h
  exact (rwrite_any w base G r t i d N h2 hok hN h6).mono fun e w' h' => ⟨h'.1, Two.ref h1 h3 h4 h5 h6 h7 h'.2.1 h'.2.2⟩
theorem p_barrier {w : World} {base p r x : Nat} {s t : St} (h : Two w base p r x s t) {N : Nat} (hok : s.Ok N) (hN : N ≤ 5000) (s' : St) (hs : barS s = s') :
    Calls Tryd.prog 21 #[.pointer (some ⟨p, 0, none⟩)] w fun e w' => e = .returned (.int .i64 (opE s true)) ∧ Two w' base p r x s' t ∧ Stay base x w w' := by
  subst hs
  obtain ⟨F, G, h1, h2, h3, h4, h5, h6, h7⟩ := h
  exact (dbarrier_any w base F p s N h1 hok hN).mono fun e w' h' => ⟨h'.1, Two.prog h2 h3 h4 h5 h6 h7 (h'.2.1.mono fun k hk => .inl hk) h'.2.2⟩
theorem r_barrier {w : World} {base p r x : Nat} {s t : St} (h : Two w base p r x s t) {N : Nat} (hok : t.Ok N) (hN : N ≤ 5000) (t' : St) (hs : barS t = t') :
    Calls Tryd.prog 22 #[.pointer (some ⟨r, 0, none⟩)] w fun e w' => e = .returned (.int .i64 (opE t true)) ∧ Two w' base p r x s t' ∧ Stay base x w w' := by
  subst hs
  obtain ⟨F, G, h1, h2, h3, h4, h5, h6, h7⟩ := h
  exact (rbarrier_any w base G r t N h2 hok hN).mono fun e w' h' => ⟨h'.1, Two.ref h1 h3 h4 h5 h6 h7 (h'.2.1.mono fun k hk => .inl hk) h'.2.2⟩
theorem p_arm {w : World} {base p r x : Nat} {s t : St} (h : Two w base p r x s t) (n : Int) (s' : St) (hs : armS s n = s') :
    Calls Tryd.prog 23 #[.pointer (some ⟨p, 0, none⟩), .int .i64 n] w fun e w' => e = .returned (.tuple #[]) ∧ Two w' base p r x s' t ∧ Stay base x w w' := by
  subst hs
  obtain ⟨F, G, h1, h2, h3, h4, h5, h6, h7⟩ := h
  exact (darm_any w base F p s n h1).mono fun e w' h' => ⟨h'.1, Two.prog h2 h3 h4 h5 h6 h7 (h'.2.1.mono fun k hk => .inl hk) h'.2.2⟩
theorem r_arm {w : World} {base p r x : Nat} {s t : St} (h : Two w base p r x s t) (n : Int) (t' : St) (hs : armS t n = t') :
    Calls Tryd.prog 24 #[.pointer (some ⟨r, 0, none⟩), .int .i64 n] w fun e w' => e = .returned (.tuple #[]) ∧ Two w' base p r x s t' ∧ Stay base x w w' := by
  subst hs
  obtain ⟨F, G, h1, h2, h3, h4, h5, h6, h7⟩ := h
  exact (rarm_any w base G r t n h2).mono fun e w' h' => ⟨h'.1, Two.ref h1 h3 h4 h5 h6 h7 (h'.2.1.mono fun k hk => .inl hk) h'.2.2⟩
theorem p_boot {w : World} {base p r x : Nat} {s t : St} (h : Two w base p r x s t) (vc : Value) (cs : List UInt8) {N : Nat} (hok : s.Ok N) (hN : N ≤ 5000) (hm : Masks w) (hc : Bts w vc cs) (s' : St) (hs : bootS s cs = s') :
    Calls Tryd.prog 25 #[.pointer (some ⟨p, 0, none⟩), vc] w fun e w' => e = .returned (.tuple #[]) ∧ Two w' base p r x s' t ∧ Stay base x w w' := by
  subst hs
  obtain ⟨F, G, h1, h2, h3, h4, h5, h6, h7⟩ := h
  exact (dboot_any w base F p s vc cs N h1 hok hN h6 hm hc).mono fun e w' h' => ⟨h'.1, Two.prog h2 h3 h4 h5 h6 h7 h'.2.1 h'.2.2⟩
theorem r_boot {w : World} {base p r x : Nat} {s t : St} (h : Two w base p r x s t) (vc : Value) (cs : List UInt8) {N : Nat} (hok : t.Ok N) (hN : N ≤ 5000) (hc : Bts w vc cs) (t' : St) (hs : bootS t cs = t') :
    Calls Tryd.prog 26 #[.pointer (some ⟨r, 0, none⟩), vc] w fun e w' => e = .returned (.tuple #[]) ∧ Two w' base p r x s t' ∧ Stay base x w w' := by
  subst hs
  obtain ⟨F, G, h1, h2, h3, h4, h5, h6, h7⟩ := h
  exact (rboot_any w base G r t vc cs N h2 hok hN h6 hc).mono fun e w' h' => ⟨h'.1, Two.ref h1 h3 h4 h5 h6 h7 h'.2.1 h'.2.2⟩

/-! Acts. -/
structure Ac where
  what : UInt8
  sec : Int
  ltr : UInt8
  num : Int
  cv : Value
  cs : List UInt8
def acC1 (x : Ac) : List Value := [.int .u8 (x.what.toNat : Nat), .int .i16 x.sec, .int .u8 (x.ltr.toNat : Nat), .int .i8 x.num, x.cv]
def acC (l : List Ac) : List Value := l.flatMap acC1
def Ac.Fit (w : World) (x : Ac) : Prop := Bts w x.cv x.cs ∧ -32768 ≤ x.sec ∧ x.sec ≤ 32767 ∧ -128 ≤ x.num ∧ x.num ≤ 127
def Acs (w : World) (v : Value) (l : List Ac) : Prop := Sl 5 w v l.length (acC l) ∧ ∀ x ∈ l, x.Fit w
theorem acC_length (l : List Ac) : (acC l).length = l.length * 5 := by
  induction l with
  | nil => rfl
  | cons x l ih => show (acC l).length + 5 = _; rw [ih, List.length_cons]; omega
theorem acC_at (l : List Ac) (i : Nat) (x : Ac) (h : l[i]? = some x) (j : Nat) (hj : j < 5) : (acC l)[i * 5 + j]? = (acC1 x)[j]? := by
  induction l generalizing i with
  | nil => simp at h
  | cons y l ih =>
    cases i with
    | zero =>
      obtain rfl : y = x := by simpa using h
      show ((acC1 y) ++ acC l)[0 * 5 + j]? = _
      rw [List.getElem?_append_left (by simp [acC1]; omega)]
      simp
    | succ i =>
      have := ih i (by simpa using h)
      show ((acC1 y) ++ acC l)[(i + 1) * 5 + j]? = _
      rw [List.getElem?_append_right (by simp [acC1]; omega), show (i + 1) * 5 + j - (acC1 y).length = i * 5 + j by simp [acC1]; omega]
      exact this
end Go.Proofs.YtcoegaipojnndaaDoor
