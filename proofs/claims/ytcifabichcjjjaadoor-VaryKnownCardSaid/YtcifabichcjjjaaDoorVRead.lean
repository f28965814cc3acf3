/-
  What vary.Read answers, over this seat's translation: the fields whose bytes the text is, or a Fault; condition: the text has at most a million bytes.
-/
import Derived.Test.YtcifabichcjjjaaDoorVFd
import Derived.Deep.LoopGhost
namespace Go.Proofs.YtcifabichcjjjaaDoor
open Go.RowKit

theorem readField_err (b c : Nat) (h : UInt8) (v : Value) (l : List Fd) (r : List UInt8) (w : World) (hv : Fs w v l) (hl : l.length ≤ 1000000) (hL : Lf w b r) (hr : r.length ≤ 1000000) (e : fieldR h r l = .error c) (hc0 : c ≠ 0) :
    Calls Tryd.prog 28 #[.func (.func 27) #[] #[.pointer (some ⟨b, 0, none⟩)], .int .u8 h.toNat, v] w (FdErr w b c) := by
  unfold fieldR at e
  by_cases h1 : headR ((h.toNat / 2 : Nat) : Int) l = 0
  · rw [if_neg (by simpa using h1)] at e
    cases hn : numR r with
    | error c' => rw [hn] at e; injection e with e; subst e; exact readField_num b c' h v l r w hv hl h1 hL hr hn hc0
    | ok p =>
      obtain ⟨n, r1⟩ := p
      rw [hn] at e
      simp only at e
      by_cases h2 : h.toNat % 2 = 1
      · rw [if_pos h2] at e
        cases ht : textR n r1 with
        | error c' => rw [ht] at e; injection e with e; subst e; exact readField_terr b n c' h v l r r1 w hv hl h1 hL hr hn h2 ht hc0
        | ok q => obtain ⟨t, r2⟩ := q; rw [ht] at e; cases e
      · rw [if_neg h2] at e; cases e
  · rw [if_pos (by simpa using h1)] at e
    injection e with e
    exact readField_head b c h v l w hv hl e hc0
theorem readField_got (b : Nat) (h : UInt8) (v : Value) (l : List Fd) (r r' : List UInt8) (f : Fd) (w : World) (hv : Fs w v l) (hl : l.length ≤ 1000000) (hL : Lf w b r) (hr : r.length ≤ 1000000) (e : fieldR h r l = .ok (f, r')) :
    Calls Tryd.prog 28 #[.func (.func 27) #[] #[.pointer (some ⟨b, 0, none⟩)], .int .u8 h.toNat, v] w (FdGot w b f r') := by
  unfold fieldR at e
  by_cases h1 : headR ((h.toNat / 2 : Nat) : Int) l = 0
  · rw [if_neg (by simpa using h1)] at e
    cases hn : numR r with
    | error c' => rw [hn] at e; cases e
    | ok p =>
      obtain ⟨n, r1⟩ := p
      rw [hn] at e
      simp only at e
      by_cases h2 : h.toNat % 2 = 1
      · rw [if_pos h2] at e
        cases ht : textR n r1 with
        | error c' => rw [ht] at e; cases e
        | ok q =>
          obtain ⟨t, r2⟩ := q
          rw [ht] at e
          simp only at e
          injection e with e; injection e with e1 e2; subst e1; subst e2
          exact readField_text b n h v l r r1 t r2 w hv hl h1 hL hr hn h2 ht
      · rw [if_neg h2] at e
        injection e with e; injection e with e1 e2; subst e1; subst e2
        exact readField_plain b n h v l r r1 w hv hl h1 hL hr hn h2
  · rw [if_pos (by simpa using h1)] at e; cases e

/-- A Fault's block. -/
def Ft (w : World) (b : Nat) (c p : Nat) : Prop := Blk w b 45 #[.int .i64 c, .int .i64 p]
/-- What Read answers. -/
def ReadGot (w : World) (s : List UInt8) (e : Ending) (w' : World) : Prop :=
  w.grownBy w' none ∧ match readS s with
    | .ok l => ∃ v, e = .returned (.tuple #[v, .nilIface]) ∧ Fs w' v l
    | .error (c, p) => ∃ a, e = .returned (.tuple #[.slice none 0 0, .iface 69 (.pointer (some ⟨a, 0, none⟩))]) ∧ Ft w' a c p

theorem bytes_start (s : ByteArray) (w : World) (W : World) (v : Value) (cap : Nat) (hcap : s.size ≤ cap) (hv : v = .slice (some ⟨w.heap.size, 0, none⟩) s.size cap) (fr : Nat × Nat)
    (hW : W = (w.drew.alloc (.cells (bytesRow s cap) 5 fr)).alloc (.cells #[v] 59)) :
    Lf W (w.heap.size + 1) s.data.toList ∧ w.grownBy W none := by
  subst hv
  have g1 := gb_trans (gb_drew w none) (gb_alloc w.drew (.cells (bytesRow s cap) 5 fr) none)
  have g2 := gb_alloc (w.drew.alloc (.cells (bytesRow s cap) 5 fr)) (.cells #[.slice (some ⟨w.heap.size, 0, none⟩) s.size cap] 59) none
  refine ⟨⟨some ⟨w.heap.size, 0, none⟩, cap, ?_, by simpa using hcap, (fun e => by cases e), ?_⟩, by rw [hW]; exact gb_trans g1 g2⟩
  · have := Blk.mk (w.drew.alloc (.cells (bytesRow s cap) 5 fr)) 59 #[.slice (some ⟨w.heap.size, 0, none⟩) s.size cap]
    rw [hW]
    simpa using this
  · intro a e
    cases e
    refine ⟨by simp, fun j u hj => ?_⟩
    rw [hW]
    refine g2.cell ?_ (by simp)
    have hjl : j < s.data.size := by
      have := (List.getElem?_eq_some_iff.1 hj).1
      simpa [bcells_length] using this
    have hb : (w.drew.alloc (.cells (bytesRow s cap) 5 fr)).heap[w.heap.size]? = some (.cells (bytesRow s cap) 5 fr) := by simpa using heap_alloc_new w.drew (.cells (bytesRow s cap) 5 fr)
    have hadd : ((⟨w.heap.size, 0, none⟩ : Addr).add j) = ⟨w.heap.size, j, none⟩ := by unfold Addr.add; split <;> simp [*]
    rw [hadd]
    have hget : (bytesRow s cap)[j]? = some u := by
      rw [bytesRow, Array.getElem?_append_left (by simpa using hjl)]
      simpa [bcells] using hj
    simp only [World.cell?, hb]
    exact hget

theorem Tryd.infoF : (Tryd.prog.info? 29).map (fun i => (i.zero, i.size, i.bytes)) = some (some (.agg #[.int .i64 0, .bool false, .int .u64 0, .string ⟨#[]⟩]), 4, 40) := by kernel_rfl
/-- What holds at each round's head. -/
def ReadRel (w : World) (s : ByteArray) (g : Nat) (v6 : Value) (wr : World) : Prop :=
  ∃ (fs : List Fd) (r : List UInt8), r.length = g ∧ wr.ownsRow (w.heap.size + 2) 29 4 v6 fs.length (fcells fs) ∧ Lf wr (w.heap.size + 1) r ∧ w.grownBy wr none ∧ readS s.data.toList = readGo s.size r.length fs r ∧ fs.length + r.length ≤ s.size ∧ w.heap.size + 2 ≤ wr.heap.size

theorem Lf.keepO {w w' : World} {b : Nat} {o : Option Nat} {l : List UInt8} (h : Lf w b l) (g : w.grownBy w' o) (hr : ∀ k, o = some k → b < k) : Lf w' b l := by
  cases o with
  | none => exact h.keep0 g
  | some r => exact h.keepR g (hr r rfl)
theorem gb_own2 {W w w' : World} {base : Nat} {e : TypeId} {size : Nat} {v : Value} {n : Nat} {xs : List Value} (hg : W.grownBy w none) (ho : w.ownsRow base e size v n xs) (hb : W.heap.size ≤ base) (h2 : w.grownBy w' v.ownBlock) : W.grownBy w' none := by
  refine ⟨h2.os.trans hg.os, h2.tape.trans hg.tape, h2.output.trans hg.output, Nat.le_trans hg.size h2.size, ?_⟩
  intro k hk _
  rw [← hg.block k hk (by simp)]
  refine h2.block k (Nat.lt_of_lt_of_le hk hg.size) ?_
  intro e
  have := (ho.lt k e.symm).1
  omega
theorem own_far {w w' : World} {base b : Nat} {e : TypeId} {size : Nat} {v : Value} {n : Nat} {xs : List Value} (ho : w.ownsRow base e size v n xs) (g : w.grownBy w' (some b)) (hb : b < base) : w'.ownsRow base e size v n xs := by
  refine ho.kept g ?_
  cases hv : v.ownBlock with
  | none => exact Or.inl rfl
  | some k =>
    right
    intro e
    injection e with e
    have := (ho.lt k hv).1
    omega
theorem numR_ne {r : List UInt8} {c : Nat} (h : numR r = .error c) : c ≠ 0 := by
  cases r with
  | nil => injection h with h; omega
  | cons k r =>
    rw [numR_cons] at h
    by_cases h1 : 8 < k.toNat
    · rw [if_pos h1] at h; injection h with h; omega
    · rw [if_neg h1] at h
      by_cases h2 : r.length < k.toNat
      · rw [if_pos h2] at h; injection h with h; omega
      · rw [if_neg h2] at h
        by_cases h3 : (r.take k.toNat).head? = some 0
        · rw [if_pos h3] at h; injection h with h; omega
        · rw [if_neg h3] at h; cases h
theorem textR_ne {n : Nat} {r : List UInt8} {c : Nat} (h : textR n r = .error c) : c ≠ 0 := by
  unfold textR at h
  by_cases h1 : 2000 < n
  · rw [if_pos h1] at h; injection h with h; omega
  · rw [if_neg h1] at h
    by_cases h2 : r.length < n
    · rw [if_pos h2] at h; injection h with h; omega
    · rw [if_neg h2] at h; cases h
theorem fieldR_ne {h : UInt8} {r : List UInt8} {l : List Fd} {c : Nat} (e : fieldR h r l = .error c) : c ≠ 0 := by
  unfold fieldR at e
  by_cases h1 : headR ((h.toNat / 2 : Nat) : Int) l = 0
  · rw [if_neg (by simpa using h1)] at e
    cases hn : numR r with
    | error c' => rw [hn] at e; injection e with e; subst e; exact numR_ne hn
    | ok p =>
      obtain ⟨n, r1⟩ := p
      rw [hn] at e
      simp only at e
      by_cases h2 : h.toNat % 2 = 1
      · rw [if_pos h2] at e
        cases ht : textR n r1 with
        | error c' => rw [ht] at e; injection e with e; subst e; exact textR_ne ht
        | ok q => obtain ⟨t, r2⟩ := q; rw [ht] at e; cases e
      · rw [if_neg h2] at e; cases e
  · rw [if_pos (by simpa using h1)] at e
    injection e with e
    rw [← e]; exact h1
theorem cells_new (w : World) (f : Fd) (t : TypeId) : ∀ j u, f.cells[j]? = some u → (w.alloc (.cells #[.int .i64 f.tag, .bool f.text, .int .u64 f.n, .string f.s] t)).cell? ((⟨w.heap.size, 0, none⟩ : Addr).add j) = some u := by
  intro j u hj
  have h1 := Blk.mk w t #[.int .i64 f.tag, .bool f.text, .int .u64 f.n, .string f.s]
  have h2 : ((⟨w.heap.size, 0, none⟩ : Addr).add j) = ⟨w.heap.size, j, none⟩ := by unfold Addr.add; split <;> simp [*]
  rw [h2]
  exact Blk.cell h1 j (by simpa [Fd.cells] using hj)
theorem cells_one (f : Fd) : ∀ u ∈ f.cells, u.oneCell' = true := by
  intro u hu
  simp [Fd.cells] at hu
  rcases hu with rfl | rfl | rfl | rfl <;> rfl

set_option maxHeartbeats 1000000 in
theorem read_any (s : ByteArray) (w : World) (hs : s.size ≤ 1000000) :
    Calls Tryd.prog 15 #[.string s] w (ReadGot w s.data.toList) := by
  have hmf : ∀ (fn : Fn) (first cap : Array Value) (w : World), (Instr.makeFunc fn first cap).run Tryd.prog w = .ok (.func fn first cap) w := fun _ _ _ _ => rfl
  have hcv := run_bytes_of_string (P := Tryd.prog) w 9 59 5 s Tryd.underlying9 Tryd.underlying59 Tryd.underlying5
  have hcap := grownCap_ge w s.size 0 5
  obtain ⟨cap, hcapE⟩ : ∃ cap, cap = grownCap w s.size 0 5 := ⟨_, rfl⟩
  rw [← hcapE] at hcv hcap
  clear hcapE
  go_enter Tryd.func15, Tryd.ntmps15
  go_wp2
  go_step3
  go_wp2
  go_step3
  go_wp2
  clear hcv
  go_loopg [6, 7, 8, 9, 10, 11] s.size (fun g v6 _ _ _ _ _ wr => ReadRel w s g v6 wr)
  case atStart =>
    obtain ⟨h1, h2⟩ := bytes_start s w _ _ cap hcap rfl _ rfl
    exact ⟨[], s.data.toList, by simp, World.ownsRow_nil _ _ _ _, h1, h2, by simp [readS], by simp, by simp⟩
  case round =>
    obtain ⟨fs, r, rfl, hown, hL, hg, hR, hlen, hz⟩ := hrel
    have hL' := hL
    obtain ⟨ao, cp, hb, _, _, _⟩ := hL'
    have c0 := Blk.cell hb 0 rfl
    have HR := Lib.hid hR
    have hFs := Fs.of_owns hown
    clear hb hR
    cases r with
    | nil =>
      go_wp2_with (go_at_call 27; refine (take_no (w.heap.size + 1) [] 1 _ hL (by simp)).mono ?_; rintro e w1 ⟨rfl, rfl⟩)
      try rw [Exit.noGoto_ret]
      go_ret2
      refine ⟨hg, ?_⟩
      rw [HR.out, readGo_nil]
      exact ⟨_, rfl, hFs⟩
    | cons c r =>
      have hlen' : fs.length + (r.length + 1) ≤ s.size := hlen
      clear hlen
      have hm : s.size - (r.length + 1) ≤ s.size := Nat.sub_le _ _
      go_wp2_with fail
      refine (take_one (w.heap.size + 1) c r _ hL (by omega)).mono ?_
      rintro e w1 ⟨a1, cap1, rfl, c1, k1, l1, g1⟩
      clear c0
      have own1 := own_far hown g1 (by omega)
      have fs1 := Fs.of_owns own1
      have hg1 := gb_step hg g1 (by omega)
      go_wp2_with fail
      cases hf : fieldR c r fs with
      | error cd =>
        have hne := fieldR_ne hf
        have hne' : ((cd : Int) == 0) = false := by rw [beq_eq_false_iff_ne]; omega
        have he := readGo_err (all := s.size) hf
        have HE := Lib.hid he
        have HF := Lib.hid hf
        clear hf he
        refine (readField_err (w.heap.size + 1) cd c _ fs r _ fs1 (by omega) l1 (by omega) HF.out hne).mono ?_
        rintro e w2 ⟨rfl, g2⟩
        have hg2 := gb_step hg1 g2 (by omega)
        go_wp2
        try rw [Exit.noGoto_ret]
        go_ret2
        have e1 : ((s.size : Int) - ((r.length : Int) + 1)) = ((s.size - (r.length + 1) : Nat) : Int) := by omega
        rw [e1]
        refine ⟨gb_trans hg2 (gb_trans (gb_alloc _ _ _) (gb_alloc _ _ _)), ?_⟩
        rw [HR.out, HE.out]
        refine ⟨w2.heap.size + 1, rfl, ?_⟩
        have hk := Blk.mk (w2.alloc (.cells #[.int .i64 0, .bool false, .int .u64 0, .string ⟨#[]⟩] 29)) 45 #[.int .i64 cd, .int .i64 ((s.size - (r.length + 1) : Nat) : Int)]
        have hz3 : (w2.alloc (.cells #[.int .i64 0, .bool false, .int .u64 0, .string ⟨#[]⟩] 29)).heap.size = w2.heap.size + 1 := by simp
        rw [hz3] at hk
        exact hk
      | ok p =>
        obtain ⟨f, r'⟩ := p
        have hle := fieldR_le hf
        have he := readGo_ok (all := s.size) hf
        have HE := Lib.hid he
        have HF := Lib.hid hf
        clear hf he
        obtain ⟨i0, hi, hz0, hz1, hz2⟩ := info_parts Tryd.infoF
        refine (readField_got (w.heap.size + 1) c _ fs r r' f _ fs1 (by omega) l1 (by omega) HF.out).mono ?_
        rintro e w2 ⟨rfl, l2, g2⟩
        have hg2 := gb_step hg1 g2 (by omega)
        have own2 := own_far own1 g2 (by omega)
        have hz2' : w.heap.size + 2 ≤ w2.heap.size := by have := g1.size; have := g2.size; omega
        go_wp2_with (at_builtin; go_must (refine wpList_append_own _ rfl _ _ 22 rfl (w.heap.size + 2) 29 i0 _ 4 40 Tryd.underlying22 hi hz0 hz1 hz2 rfl (by decide) _ _ _ rfl ((own2.alloc _).alloc _) ⟨w2.heap.size + 1, 0, none⟩ 1 1 f.cells rfl rfl (by simpa using cells_new (w2.alloc (.cells #[.int .i64 f.tag, .bool f.text, .int .u64 f.n, .string f.s] 29)) f 29) (cells_one f) (by unfold maxLen; omega) (by omega) (by simp; omega) ?_; intro v3 w3 own3 g3 _))
        have gA := gb_trans (gb_alloc w2 (.cells #[.int .i64 f.tag, .bool f.text, .int .u64 f.n, .string f.s] 29) none) (gb_alloc _ (.cells #[.int .i64 f.tag, .bool f.text, .int .u64 f.n, .string f.s] 29) none)
        have hRel : ReadRel w s r'.length v3 w3 := by
          refine ⟨fs ++ [f], r', rfl, owns_cast own3 (by simp) (by rw [fcells_append]; rfl), (l2.keep0 gA).keepO g3 (fun k hk => by have := (own2.lt k hk).1; omega), gb_own2 (gb_trans hg2 gA) (own2.kept gA (by cases hv : u6.ownBlock <;> simp)) (by omega) g3, by rw [HR.out, HE.out], by simp; omega, ?_⟩
          have := gA.size
          have := g3.size
          omega
        clear own3 g3 gA l2 own2 hg2 HE HF HR g2 g1 hg1 own1 fs1 l1 c1 hFs hL hown hg
        go_wp2
        go_roundg r'.length
        case rel => exact hRel
        all_goals (simp; omega)
end Go.Proofs.YtcifabichcjjjaaDoor
