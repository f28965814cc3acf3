/-
  What vary.Put answers, over this seat's translation: the document's P2.1; conditions: the slice reads as a list of fields whose numbers fit.
-/
import Derived.Test.YtcifabichcjjjaaDoorVPut
namespace Go.Proofs.YtcifabichcjjjaaDoor
open Go.RowKit

theorem refB_zero {f : Fd} {a : Int} (h : refB f a = 0) : 1 ≤ f.tag ∧ f.tag ≤ 63 ∧ a < f.tag ∧ f.s.size ≤ 2000 ∧ (f.text = true → f.n = 0) ∧ (f.text = false → f.s.size = 0) := by
  unfold refB at h
  by_cases h1 : mayB f = false
  · rw [if_pos h1] at h; cases h
  · rw [if_neg h1] at h
    by_cases h2 : f.tag ≤ a
    · rw [if_pos h2] at h; cases h
    · rw [if_neg h2] at h
      by_cases h3 : 2000 < f.s.size
      · rw [if_pos h3] at h; cases h
      · have h4 : mayB f = true := by simpa using h1
        unfold mayB at h4
        simp only [Bool.and_eq_true, decide_eq_true_eq] at h4
        refine ⟨h4.1.1, h4.1.2, by omega, by omega, fun e => ?_, fun e => ?_⟩
        · have h5 := h4.2; rw [if_pos e] at h5; simpa using h5
        · have h5 := h4.2; rw [if_neg (by rw [e]; simp)] at h5; simpa using h5
theorem layField_any (B : Nat) (v : Value) (l : List UInt8) (tag : Int) (text : Bool) (n : Nat) (s : ByteArray) (a : Int) (w : World) (hown : w.ownsRow B 5 1 v l.length (bcells l)) (hB : B ≤ w.heap.size) (hn : n < 18446744073709551616) (hl : l.length ≤ 900000) (hr : refB ⟨tag, text, n, s⟩ a = 0) :
    Calls Tryd.prog 24 #[v, .agg #[.int .i64 tag, .bool text, .int .u64 n, .string s]] w (OntoF w B (l ++ fieldB ⟨tag, text, n, s⟩)) := by
  obtain ⟨h1, h2, _, h4, _, _⟩ := refB_zero hr
  cases text with
  | false => exact layField_num B v l tag n s w hown hB hn hl h1 h2
  | true => exact layField_text B v l tag n s w hown hB h4 hl h1 h2
theorem lastT_take (l : List Fd) (k : Nat) (f : Fd) (h : l[k]? = some f) : lastT (l.take (k + 1)) = f.tag := by
  have hk : k < l.length := (List.getElem?_eq_some_iff.1 h).1
  have hf : l[k] = f := (List.getElem?_eq_some_iff.1 h).2
  rw [List.take_succ_eq_append_getElem hk, hf]
  simp [lastT]
theorem putGo_step (l : List Fd) (k : Nat) (f : Fd) (h : l[k]? = some f) (acc : List UInt8) (a : Int) : putGo a (l.drop k) acc = if refB f a = 0 then putGo f.tag (l.drop (k + 1)) (acc ++ fieldB f) else ([], refB f a) := by
  have hk : k < l.length := (List.getElem?_eq_some_iff.1 h).1
  have hf : l[k] = f := (List.getElem?_eq_some_iff.1 h).2
  rw [List.drop_eq_getElem_cons hk, hf]
  rfl
/-- What Put answers. -/
def PutGot (w : World) (l : List Fd) (e : Ending) (w' : World) : Prop :=
  e = .returned (.tuple #[.string ⟨(putS l).1.toArray⟩, .int .i64 (putS l).2]) ∧ w.grownBy w' none
/-- What holds at each round's head. -/
def PutRel (w : World) (l : List Fd) (v4 v13 : Value) (wr : World) : Prop :=
  ∃ (k : Nat) (acc : List UInt8), k ≤ l.length ∧ v13 = .int .i64 k ∧ wr.ownsRow w.heap.size 5 1 v4 acc.length (bcells acc) ∧ w.grownBy wr none ∧ putS l = putGo (lastT (l.take k)) (l.drop k) acc ∧ acc.length ≤ 2010 * k
theorem Fs.cut {w : World} {ao : Option Addr} {cap : Nat} {l : List Fd} (k : Nat) (hk : k ≤ l.length) (hcap : l.length ≤ cap) (hnil : ao = none → l.length = 0 ∧ cap = 0) (hcell : ∀ a, ao = some a → ∀ j u, (fcells l)[j]? = some u → w.cell? (a.add j) = some u) : Fs w (.slice ao k cap) (l.take k) := by
  refine ⟨ao, cap, by simp [Nat.min_eq_left hk], by simp; omega, fun e => ⟨by have := (hnil e).1; simp; omega, (hnil e).2⟩, fun a e j u hj => hcell a e j u ?_⟩
  have h1 : fcells l = fcells (l.take k) ++ fcells (l.drop k) := by rw [← fcells_append, List.take_append_drop]
  rw [h1, List.getElem?_append_left (List.getElem?_eq_some_iff.1 hj).1]
  exact hj

set_option maxHeartbeats 2000000 in
theorem put_any (v : Value) (l : List Fd) (w : World) (hv : Fs w v l) (hok : ∀ f ∈ l, f.ok) (hl : l.length ≤ 1000000) :
    Calls Tryd.prog 9 #[v] w (PutGot w l) := by
  obtain ⟨ao, cap, rfl, hcap, hnil, hcell⟩ := hv
  have HC := Lib.hid hcell
  have HN := Lib.hid hnil
  have HO := Lib.hid hok
  clear hcell hnil hok
  by_cases h32 : 32 < l.length
  · have HP := Lib.hid (show putS l = ([], 4) by rw [putS, if_pos h32])
    have h32' : 32 < (l.length : Int) := by omega
    go_enter Tryd.func9, Tryd.ntmps9
    go_wp2
    go_ret2
    refine ⟨?_, gb_refl _ _⟩
    rw [HP.out]
    rfl
  · have HP := Lib.hid (show putS l = putGo 0 l [] by rw [putS, if_neg h32])
    have h32' : (l.length : Int) ≤ 32 := by omega
    go_enter Tryd.func9, Tryd.ntmps9
    go_wp2
    go_loopw [4, 5, 6, 7, 13] (fun v4 _ _ _ v13 wr => PutRel w l v4 v13 wr) (fun _ _ _ _ i _ => l.length - (intOf i).toNat)
    case atStart => exact ⟨0, [], by omega, rfl, World.ownsRow_nil _ _ _ _, gb_refl _ _, HP.out, by simp⟩
    case round =>
      obtain ⟨k, acc, hk, rfl, hown, hg, hP, hacc⟩ := hrel
      have HP2 := Lib.hid hP
      clear hP
      by_cases hlt : k < l.length
      · rcases hf : l[k] with ⟨tag, text, n, s⟩
        have hget : l[k]? = some ⟨tag, text, n, s⟩ := by rw [List.getElem?_eq_getElem hlt, hf]
        cases ao with
        | none => have := (HN.out rfl).1; omega
        | some a =>
          have hcell' : ∀ a', some a = some a' → ∀ j u, (fcells l)[j]? = some u → wr.cell? (a'.add j) = some u := fun a' e j u hj => hg.cell (HC.out a' e j u hj) (by simp)
          obtain ⟨h0, h1, h2, h3⟩ := at_of (hcell' a rfl) hget
          obtain ⟨_, _, hnn, hss⟩ := HO.out _ (List.mem_of_getElem? hget)
          have hF := Fs.cut k hk hcap (fun e => by cases e) hcell'
          have hT := lastT_take l k _ hget
          have hStep := putGo_step l k _ hget acc (lastT (l.take k))
          have HT := Lib.hid hT
          have HS := Lib.hid hStep
          clear hcell' hT hStep hget hf
          obtain ⟨w0, hw0⟩ : ∃ w0 : World, w0 = wr.alloc (.cells #[.int .i64 tag, .bool text, .int .u64 n, .string s] 29) := ⟨_, rfl⟩
          have k0 : Blk w0 wr.heap.size 29 #[.int .i64 tag, .bool text, .int .u64 n, .string s] := by rw [hw0]; exact Blk.mk _ _ _
          have g0 : wr.grownBy w0 none := by rw [hw0]; exact gb_alloc _ _ _
          have own0 : w0.ownsRow w.heap.size 5 1 u4 acc.length (bcells acc) := by rw [hw0]; exact hown.alloc _
          have F0 := hF.keep0 g0
          have HW := Lib.hid hw0
          clear hw0 hF
          have hk0 : (0 : Int) ≤ (k : Int) := Int.natCast_nonneg _
          have hk1 : (k : Int) ≤ (cap : Int) := by omega
          have hkl : (l.take k).length ≤ 9223372036854775807 := by simp; omega
          go_wp2_with fail
          rw [← HW.out]
          have c0 := Blk.cell k0 0 rfl
          have c1 := Blk.cell k0 1 rfl
          have c2 := Blk.cell k0 2 rfl
          have c3 := Blk.cell k0 3 rfl
          clear h0 h1 h2 h3
          obtain ⟨t, ht⟩ : ∃ t : Int, t = lastT (l.take k) := ⟨_, rfl⟩
          obtain ⟨cd, hcd⟩ : ∃ cd : Nat, cd = refB ⟨tag, text, n, s⟩ t := ⟨_, rfl⟩
          have HTT := Lib.hid ht
          have HCD := Lib.hid hcd
          clear ht hcd
          go_region_held3 (fun w' => w'.cell? ⟨wr.heap.size, 0, none⟩ = some (.int .i64 tag) ∧ w'.cell? ⟨wr.heap.size, 1, none⟩ = some (.bool text) ∧ w'.cell? ⟨wr.heap.size, 2, none⟩ = some (.int .u64 n) ∧ w'.cell? ⟨wr.heap.size, 3, none⟩ = some (.string s)) (first | go_keep | exact d1)
            (first | (go_at_call 23; refine (lastTag_any _ (l.take k) _ (F0.keep0 (gb_drew _ _)) hkl).mono ?_; rw [← HTT.out]; rintro e w1 ⟨rfl, rfl⟩) | (go_at_call 22; refine (refused_any tag text n s t _ hss).mono ?_; rw [← HCD.out]; rintro e w1 ⟨rfl, g1⟩; have k1 := (k0.keep0 (gb_drew _ none)).keep0 g1; have d1 : w1.cell? ⟨wr.heap.size, 0, none⟩ = some (.int .i64 tag) ∧ w1.cell? ⟨wr.heap.size, 1, none⟩ = some (.bool text) ∧ w1.cell? ⟨wr.heap.size, 2, none⟩ = some (.int .u64 n) ∧ w1.cell? ⟨wr.heap.size, 3, none⟩ = some (.string s) := ⟨Blk.cell k1 0 rfl, Blk.cell k1 1 rfl, Blk.cell k1 2 rfl, Blk.cell k1 3 rfl⟩))
          clear c0 c1 c2 c3
          have c0 := Blk.cell k1 0 rfl
          have c1 := Blk.cell k1 1 rfl
          have c2 := Blk.cell k1 2 rfl
          have c3 := Blk.cell k1 3 rfl
          have hg1 : w.grownBy w1 none := gb_trans hg (gb_trans g0 (gb_trans (gb_drew _ none) g1))
          have own1 : w1.ownsRow w.heap.size 5 1 u4 acc.length (bcells acc) := own0.kept (gb_trans (gb_drew _ none) g1) (by cases hv : u4.ownBlock <;> simp)
          by_cases hc0 : cd = 0
          · have hc0' : ((cd : Int) != 0) = false := by rw [hc0]; rfl
            have hR : refB ⟨tag, text, n, s⟩ t = 0 := HCD.out.symm.trans hc0
            have HR := Lib.hid hR
            clear hR hc0
            go_wp2_with fail
            refine (layField_any w.heap.size u4 acc tag text n s t _ own1 hg1.size hnn (by omega) HR.out).mono ?_
            rintro e w2 ⟨v2, rfl, o2, gW⟩
            have hfl := fieldB_length ⟨tag, text, n, s⟩ (refB_zero HR.out).2.2.2.1
            have hRel : PutRel w l v2 (.int .i64 ((k + 1 : Nat) : Int)) w2 := by
              refine ⟨k + 1, _, by omega, rfl, o2, gW w hg1 (Nat.le_refl _), ?_, by rw [List.length_append]; omega⟩
              rw [HP2.out, HT.out, HS.out, ← HTT.out, if_pos HR.out]
            clear hfl gW o2 own1 own0 hg1 g1 k1 k0 F0
            go_wp2
            go_roundw
            case rel => exact hRel
            case measure => simp [intOf]; omega
          · have hc0' : ((cd : Int) != 0) = true := by rw [bne_iff_ne]; omega
            go_wp2
            go_ret2
            refine ⟨?_, hg1⟩
            have hR : refB ⟨tag, text, n, s⟩ t ≠ 0 := fun e => hc0 (HCD.out.trans e)
            rw [HP2.out, HS.out, ← HTT.out, if_neg hR, ← HCD.out]
            rfl
      · obtain rfl : k = l.length := by omega
        have cv := conv_bs _ _ _ (Bs.of_owns hown)
        go_wp2
        go_ret2
        refine ⟨?_, hg⟩
        rw [HP2.out, List.drop_length]
        rfl
end Go.Proofs.YtcifabichcjjjaaDoor
