/-
  The walk of TableLowest, over this seat's translation; conditions: the slice reads as numbers of 16 bits.
-/
import Derived.Test.YtfkkdhgggocgjaaTk
namespace Go.Proofs.Ytfkkdhgggocgjaa
open Go.RowKit

/-- A slice of numbers of 16 bits. -/
def Us (w : World) (v : Value) (l : List Nat) : Prop := Sl 1 w v l.length (u16C l)
/-- Is a page among those that numbers tell? -/
def toldB (l : List Nat) (k : Nat) : Bool := l.any fun x => x % 960 == k
theorem toldB_snoc (l : List Nat) (x k : Nat) : toldB (l ++ [x]) k = (toldB l k || (x % 960 == k)) := by simp [toldB]
theorem toldB_no {l : List Nat} {k : Nat} (h : ∀ j, j < l.length → l.getD j 0 % 960 ≠ k) : toldB l k = false := by
  unfold toldB
  rw [List.any_eq_false]
  intro x hx
  obtain ⟨j, hj, rfl⟩ := List.mem_iff_getElem.1 hx
  have := h j hj
  rw [List.getD_eq_getElem?_getD, List.getElem?_eq_getElem hj] at this
  simpa using this
theorem toldB_yes {l : List Nat} {j k : Nat} (hj : j < l.length) (h : l.getD j 0 % 960 = k) : toldB l k = true := by
  unfold toldB
  rw [List.any_eq_true]
  refine ⟨l[j], List.getElem_mem hj, ?_⟩
  rw [List.getD_eq_getElem?_getD, List.getElem?_eq_getElem hj] at h
  simpa using h
def BeforeGot (w : World) (b : Bool) (e : Ending) (w' : World) : Prop := e = .returned (.bool b) ∧ w = w'
set_option maxHeartbeats 400000 in
theorem before_nil (cap : Nat) (i : Int) (w : World) : Calls Try.prog 9 #[.slice none 0 cap, .int .i64 i] w (BeforeGot w false) := by
  go_enter Try.func9, Try.ntmps9
  go_wp2
  go_loopw [5] (fun i wr => i = .int .i64 0 ∧ w = wr) (fun _ _ => 0)
  case atStart => exact ⟨rfl, rfl⟩
  case round =>
    obtain ⟨rfl, rfl⟩ := hrel
    go_wp2
    go_ret
    exact ⟨rfl, rfl⟩
set_option maxHeartbeats 400000 in
theorem before_some (a : Addr) (cap k : Nat) (l : List Nat) (w : World) (hc : ∀ j, j < l.length → w.cell? (a.add j) = some (.int .u16 (l.getD j 0 : Nat))) (hu : ∀ j, l.getD j 0 < 65536) (hl : l.length ≤ 1000000) (hk : k < 960) :
    Calls Try.prog 9 #[.slice (some a) l.length cap, .int .i64 ((k : Int) + 1)] w (BeforeGot w (toldB l k)) := by
  have HC := Lib.hid hc
  have HU := Lib.hid hu
  obtain ⟨n, hn⟩ : ∃ n, l.length = n := ⟨_, rfl⟩
  have HN := Lib.hid hn
  rw [hn]
  rw [hn] at hl
  clear hc hu hn
  go_enter Try.func9, Try.ntmps9
  go_wp2
  go_loopw [5] (fun i wr => ∃ m : Nat, m ≤ n ∧ i = .int .i64 m ∧ Hid (∀ j, j < m → l.getD j 0 % 960 ≠ k) ∧ w = wr) (fun i _ => n - (intOf i).toNat)
  case atStart => exact ⟨0, by omega, rfl, Lib.hid (fun j hj => by omega), rfl⟩
  case round =>
    obtain ⟨m, hm, rfl, HS, rfl⟩ := hrel
    by_cases hlt : m < n
    · have ha := HC.out m (by rw [HN.out]; exact hlt)
      have hx := HU.out m
      obtain ⟨x, he⟩ : ∃ x, l.getD m 0 = x := ⟨_, rfl⟩
      rw [he] at ha hx
      have HE := Lib.hid he
      clear he
      have hw1 : IntKind.i64.wrap (x : Int) = (x : Int) := IntWalk.i64_in _ (by omega)
      obtain ⟨q, hq⟩ : ∃ q, x % 960 = q := ⟨_, rfl⟩
      have hq1 : (x : Int).tmod 960 = (q : Int) := by rw [← hq]; exact (Int.ofNat_tmod _ _).symm
      have hq2 : (x : Int) % 960 = (q : Int) := by rw [← hq]; rfl
      have hq3 : q < 960 := by omega
      have HQ := Lib.hid hq
      clear hq
      by_cases hqk : q = k
      · subst hqk
        have HT := Lib.hid (toldB_yes (l := l) (j := m) (k := q) (by rw [HN.out]; exact hlt) (by rw [HE.out, HQ.out]))
        have hb : ((1 + (q : Int)) == ((q : Int) + 1)) = true := by simp; omega
        go_wp2
        go_ret
        exact ⟨ret_bool HT.out.symm, rfl⟩
      · have hb : ((1 + (q : Int)) == ((k : Int) + 1)) = false := by simp; omega
        go_wp2
        go_roundw
        case rel =>
          refine ⟨m + 1, by omega, by go_num, Lib.hid (fun j hj => ?_), by simp⟩
          rcases Nat.lt_or_ge j m with h | h
          · exact HS.out j h
          · obtain rfl : j = m := by omega
            rw [HE.out, HQ.out]; exact hqk
        case measure => simp [intOf]; omega
    · obtain rfl : m = n := by omega
      have HT := Lib.hid (toldB_no (l := l) (k := k) (fun j hj => HS.out j (by rw [HN.out] at hj; exact hj)))
      go_wp2
      go_ret
      exact ⟨ret_bool HT.out.symm, rfl⟩
end Go.Proofs.Ytfkkdhgggocgjaa

