/-
  What vary.Find and the document's Find answer, over this seat's translation: P2.3's answer; condition: the slice reads as a list of fields.
-/
import Derived.Test.YtcifabichcjjjaaDoorVRef2
namespace Go.Proofs.YtcifabichcjjjaaDoor
open Go.RowKit

/-- What is found, as a value. -/
def foundV (l : List Fd) (tag : Int) : Value := match findS l tag with | none => .agg #[.int .i64 0, .bool false, .int .u64 0, .string ⟨#[]⟩] | some f => .agg #[.int .i64 f.tag, .bool f.text, .int .u64 f.n, .string f.s]
def foundB (l : List Fd) (tag : Int) : Bool := (findS l tag).isSome
def FindGot (w : World) (l : List Fd) (tag : Int) (e : Ending) (w' : World) : Prop :=
  e = .returned (.tuple #[foundV l tag, .bool (foundB l tag)]) ∧ w.grownBy w' none
def FindRel (w : World) (l : List Fd) (tag : Int) (v : Value) (wr : World) : Prop :=
  ∃ k : Nat, k ≤ l.length ∧ v = .int .i64 k ∧ Blk wr w.heap.size 29 #[.int .i64 0, .bool false, .int .u64 0, .string ⟨#[]⟩] ∧ w.grownBy wr none ∧ findS l tag = findS (l.drop k) tag
theorem findS_step (l : List Fd) (k : Nat) (f : Fd) (tag : Int) (h : l[k]? = some f) : findS (l.drop k) tag = if f.tag == tag then some f else findS (l.drop (k + 1)) tag := by
  have hk : k < l.length := (List.getElem?_eq_some_iff.1 h).1
  have hf : l[k] = f := (List.getElem?_eq_some_iff.1 h).2
  rw [List.drop_eq_getElem_cons hk, hf, findS, List.find?_cons]
  cases f.tag == tag <;> rfl

set_option maxRecDepth 100000 in
set_option maxHeartbeats 2000000 in
theorem find_any (v : Value) (l : List Fd) (tag : Int) (w : World) (hv : Fs w v l) (hl : l.length ≤ 1000000) :
    Calls Tryd.prog 11 #[v, .int .i64 tag] w (FindGot w l tag) := by
  obtain ⟨ao, cap, rfl, hcap, hnil, hcell⟩ := hv
  have HC := Lib.hid hcell
  have HN := Lib.hid hnil
  clear hcell hnil
  go_enter Tryd.func11, Tryd.ntmps11
  go_wp2
  go_loopw [7, 10] (fun _ v wr => FindRel w l tag v wr) (fun _ i _ => l.length - (intOf i).toNat)
  case atStart => exact ⟨0, by omega, rfl, Blk.mk _ _ _, gb_alloc _ _ _, rfl⟩
  case round =>
    obtain ⟨k, hk, rfl, kb, hg, hF⟩ := hrel
    have HF := Lib.hid hF
    clear hF
    have hkl := Blk.lt kb
    by_cases hlt : k < l.length
    · rcases hf : l[k] with ⟨ftag, text, n, s⟩
      have hget : l[k]? = some ⟨ftag, text, n, s⟩ := by rw [List.getElem?_eq_getElem hlt, hf]
      cases ao with
      | none => have := (HN.out rfl).1; omega
      | some a =>
        obtain ⟨h0, h1, h2, h3⟩ := at_of (fun j u hj => hg.cell (HC.out a rfl j u hj) (by simp)) hget
        have HS := Lib.hid (findS_step l k _ tag hget)
        clear hget hf
        have kb2 := kb.keep0 (gb_alloc wr (.cells #[.int .i64 ftag, .bool text, .int .u64 n, .string s] 29) none)
        have c0 := Blk.cell kb 0 rfl
        have c1 := Blk.cell kb 1 rfl
        have c2 := Blk.cell kb 2 rfl
        have c3 := Blk.cell kb 3 rfl
        have f0 := Blk.free kb 0
        have f1 := Blk.free kb 1
        have f2 := Blk.free kb 2
        have f3 := Blk.free kb 3
        by_cases he : ftag = tag
        · have he' : (ftag == tag) = true := by rw [beq_iff_eq]; exact he
          have hR : findS l tag = some ⟨ftag, text, n, s⟩ := by rw [HF.out, HS.out, if_pos he']
          have HR := Lib.hid hR
          clear hR he
          go_wp2
          refine bodyPost_ret (v := .tuple #[.agg #[.int .i64 ftag, .bool text, .int .u64 n, .string s], .bool true]) (by simp [results, Tryd.results11, go_sem, c0, c1, c2, c3, World.cell?_alloc_lt, hkl]) rfl ⟨?_, ?_⟩
          · rw [foundV, foundB, HR.out]; rfl
          · exact gb_trans (gb_step (gb_step (gb_step (gb_step hg (gb_set _ _ _ _ _) (Nat.le_refl _)) (gb_set _ _ _ _ _) (Nat.le_refl _)) (gb_set _ _ _ _ _) (Nat.le_refl _)) (gb_set _ _ _ _ _) (Nat.le_refl _)) (gb_alloc _ _ _)
        · have he' : (ftag == tag) = false := by rw [beq_eq_false_iff_ne]; exact he
          have hRel : FindRel w l tag (.int .i64 ((k + 1 : Nat) : Int)) (wr.alloc (.cells #[.int .i64 ftag, .bool text, .int .u64 n, .string s] 29)) := ⟨k + 1, by omega, rfl, kb2, gb_trans hg (gb_alloc _ _ none), by rw [HF.out, HS.out, if_neg (by simp [he])]⟩
          clear he
          go_wp2
          go_roundw
          case rel => exact hRel
          case measure => simp [intOf]; omega
    · obtain rfl : k = l.length := by omega
      have hR : findS l tag = none := by rw [HF.out, List.drop_length]; rfl
      have HR := Lib.hid hR
      clear hR
      have c0 := Blk.cell kb 0 rfl
      have c1 := Blk.cell kb 1 rfl
      have c2 := Blk.cell kb 2 rfl
      have c3 := Blk.cell kb 3 rfl
      have f0 := Blk.free kb 0
      have f1 := Blk.free kb 1
      have f2 := Blk.free kb 2
      have f3 := Blk.free kb 3
      go_wp2
      refine bodyPost_ret (v := .tuple #[.agg #[.int .i64 0, .bool false, .int .u64 0, .string ⟨#[]⟩], .bool false]) (by simp [results, Tryd.results11, go_sem, c0, c1, c2, c3]) rfl ⟨?_, ?_⟩
      · rw [foundV, foundB, HR.out]; rfl
      · exact gb_step (gb_step (gb_step (gb_step hg (gb_set _ _ _ _ _) (Nat.le_refl _)) (gb_set _ _ _ _ _) (Nat.le_refl _)) (gb_set _ _ _ _ _) (Nat.le_refl _)) (gb_set _ _ _ _ _) (Nat.le_refl _)

set_option maxRecDepth 100000 in
set_option maxHeartbeats 2000000 in
theorem ref_find (v : Value) (l : List Fd) (tag : Int) (w : World) (hv : Fs w v l) (hl : l.length ≤ 1000000) :
    Calls Tryd.prog 12 #[v, .int .i64 tag] w (FindGot w l tag) := by
  obtain ⟨ao, cap, rfl, hcap, hnil, hcell⟩ := hv
  have HC := Lib.hid hcell
  have HN := Lib.hid hnil
  clear hcell hnil
  go_enter Tryd.func12, Tryd.ntmps12
  go_wp2
  go_loopw [6] (fun v wr => FindRel w l tag v wr) (fun i _ => l.length - (intOf i).toNat)
  case atStart => exact ⟨0, by omega, rfl, Blk.mk _ _ _, gb_alloc _ _ _, rfl⟩
  case round =>
    obtain ⟨k, hk, rfl, kb, hg, hF⟩ := hrel
    have HF := Lib.hid hF
    clear hF
    have hkl := Blk.lt kb
    by_cases hlt : k < l.length
    · rcases hf : l[k] with ⟨ftag, text, n, s⟩
      have hget : l[k]? = some ⟨ftag, text, n, s⟩ := by rw [List.getElem?_eq_getElem hlt, hf]
      cases ao with
      | none => have := (HN.out rfl).1; omega
      | some a =>
        obtain ⟨h0, h1, h2, h3⟩ := at_of (fun j u hj => hg.cell (HC.out a rfl j u hj) (by simp)) hget
        have HS := Lib.hid (findS_step l k _ tag hget)
        clear hget hf
        have kb2 := kb.keep0 (gb_refl wr none)
        have c0 := Blk.cell kb 0 rfl
        have c1 := Blk.cell kb 1 rfl
        have c2 := Blk.cell kb 2 rfl
        have c3 := Blk.cell kb 3 rfl
        have f0 := Blk.free kb 0
        have f1 := Blk.free kb 1
        have f2 := Blk.free kb 2
        have f3 := Blk.free kb 3
        by_cases he : ftag = tag
        · have he' : (ftag == tag) = true := by rw [beq_iff_eq]; exact he
          have hR : findS l tag = some ⟨ftag, text, n, s⟩ := by rw [HF.out, HS.out, if_pos he']
          have HR := Lib.hid hR
          clear hR he
          go_wp2
          refine bodyPost_ret (v := .tuple #[.agg #[.int .i64 ftag, .bool text, .int .u64 n, .string s], .bool true]) (by simp [results, Tryd.results12, go_sem, c0, c1, c2, c3]) rfl ⟨?_, ?_⟩
          · rw [foundV, foundB, HR.out]; rfl
          · exact gb_step (gb_step (gb_step (gb_step hg (gb_set _ _ _ _ _) (Nat.le_refl _)) (gb_set _ _ _ _ _) (Nat.le_refl _)) (gb_set _ _ _ _ _) (Nat.le_refl _)) (gb_set _ _ _ _ _) (Nat.le_refl _)
        · have he' : (ftag == tag) = false := by rw [beq_eq_false_iff_ne]; exact he
          have hRel : FindRel w l tag (.int .i64 ((k + 1 : Nat) : Int)) wr := ⟨k + 1, by omega, rfl, kb2, gb_trans hg (gb_refl _ none), by rw [HF.out, HS.out, if_neg (by simp [he])]⟩
          clear he
          go_wp2
          go_roundw
          case rel => exact hRel
          case measure => simp [intOf]; omega
    · obtain rfl : k = l.length := by omega
      have hR : findS l tag = none := by rw [HF.out, List.drop_length]; rfl
      have HR := Lib.hid hR
      clear hR
      have c0 := Blk.cell kb 0 rfl
      have c1 := Blk.cell kb 1 rfl
      have c2 := Blk.cell kb 2 rfl
      have c3 := Blk.cell kb 3 rfl
      have f0 := Blk.free kb 0
      have f1 := Blk.free kb 1
      have f2 := Blk.free kb 2
      have f3 := Blk.free kb 3
      go_wp2
      refine bodyPost_ret (v := .tuple #[.agg #[.int .i64 0, .bool false, .int .u64 0, .string ⟨#[]⟩], .bool false]) (by simp [results, Tryd.results12, go_sem, c0, c1, c2, c3]) rfl ⟨?_, ?_⟩
      · rw [foundV, foundB, HR.out]; rfl
      · exact gb_step (gb_step (gb_step (gb_step hg (gb_set _ _ _ _ _) (Nat.le_refl _)) (gb_set _ _ _ _ _) (Nat.le_refl _)) (gb_set _ _ _ _ _) (Nat.le_refl _)) (gb_set _ _ _ _ _) (Nat.le_refl _)
end Go.Proofs.YtcifabichcjjjaaDoor
