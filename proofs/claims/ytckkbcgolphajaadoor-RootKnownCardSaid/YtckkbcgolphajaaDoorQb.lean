/-
  A row of bytes of the call's own: made of a text, written at a place, and made a text again, over this seat's translation; no conditions beside those that each law states.
-/
import Derived.Test.YtckkbcgolphajaaDoorGb
import Derived.Laws.IdiomStrings
namespace Go.Proofs.YtckkbcgolphajaaDoor
open Go.RowKit

/-- Block B's first cells are these bytes, and may be written. -/
def ByteRow (B : Nat) (W : World) (l : List UInt8) : Prop := ∀ j (h : j < l.length), W.cell? ⟨B, j, none⟩ = some (.int .u8 (l[j].toNat : Nat)) ∧ W.frozen? ⟨B, j, none⟩ = false
theorem brow_below {B n : Nat} {W W' : World} {l : List UInt8} (h : ByteRow B W l) (hb : Below n W W') (hB : B < n) : ByteRow B W' l :=
  fun j hj => ⟨(hb.cell (p := ⟨B, j, none⟩) hB).trans (h j hj).1, (hb.frozen (p := ⟨B, j, none⟩) hB).trans (h j hj).2⟩
theorem brow_set {B k : Nat} {W : World} {l : List UInt8} (h : ByteRow B W l) (hk : k < l.length) (c : UInt8) {z : Int} (hz : z = (c.toNat : Nat)) : ByteRow B (W.setCell ⟨B, k, none⟩ (.int .u8 z)) (l.set k c) := by
  intro j hj
  subst hz
  rw [List.length_set] at hj
  refine ⟨?_, by rw [World.frozen?_setCell]; exact (h j hj).2⟩
  by_cases e : k = j
  · subst e
    rw [World.cell?_setCell_same' _ _ _ (by rw [(h k hk).1]; rfl)]
    simp
  · rw [World.cell?_setCell_other _ _ _ _ (fun e' => by injection e' with _ e2; exact e e2), (h j hj).1]
    simp [e]
theorem brow_drew {B : Nat} {W : World} {l : List UInt8} (h : ByteRow B W l) : ByteRow B W.drew l := fun j hj => h j hj
theorem brow_str {B : Nat} {W : World} {l : List UInt8} (h : ByteRow B W l) (n cap : Nat) (hn : n = l.length) :
    (convert 43 9 (.slice (some ⟨B, 0, none⟩) n cap)).run Tryd.prog W = .ok (.string ⟨l.toArray⟩) W := by
  subst hn
  exact run_convert_bytes_back W 43 9 5 ⟨B, 0, none⟩ cap l Tryd.underlying43 Tryd.underlying5 Tryd.underlying9 (fun j hj => by
    have : (⟨B, 0, none⟩ : Addr).add j = ⟨B, j, none⟩ := by unfold Addr.add; split <;> simp_all
    rw [this]; exact (h j hj).1)
theorem brow_new (w : World) (s : ByteArray) : ∃ cap W2, (convert 9 43 (.string s)).run Tryd.prog w = .ok (.slice (some ⟨w.heap.size, 0, none⟩) s.size cap) W2 ∧ ByteRow w.heap.size W2 s.data.toList ∧ Below w.heap.size w W2 ∧ W2.heap.size = w.heap.size + 1 := by
  refine ⟨_, _, run_bytes_of_string w 9 43 5 s Tryd.underlying9 Tryd.underlying43 Tryd.underlying5, ?_, ?_, ?_⟩
  · intro j hj
    have hj' : j < s.data.size := by simpa using hj
    constructor
    · refine (World.cell?_alloc_mark w.drew _ _ _ j).trans ?_
      rw [bytesRow_at s _ j hj']
      simp
    · refine (World.frozen?_alloc_mark w.drew _ _ _ _ j).trans ?_
      have : j < (bytesRow s (grownCap w s.size 0 5)).size := by
        unfold bytesRow; simp only [Array.size_append, Array.size_map]; omega
      simp; omega
  · exact (Below.refl _ w).drew.alloc (Nat.le_refl _) _
  · simp
theorem xor_byte (c d : UInt8) : bits .xor .u8 (c.toNat : Int) (d.toNat : Int) = ((c ^^^ d).toNat : Nat) := by
  have e1 : BitVec.ofInt 8 (c.toNat : Int) = c.toBitVec := by rw [BitVec.ofInt_natCast]; simp
  have e2 : BitVec.ofInt 8 (d.toNat : Int) = d.toBitVec := by rw [BitVec.ofInt_natCast]; simp
  show IntKind.u8.wrap (((BitVec.ofInt 8 (c.toNat : Int) ^^^ BitVec.ofInt 8 (d.toNat : Int)).toNat : Nat) : Int) = _
  rw [e1, e2]
  have h : (c.toBitVec ^^^ d.toBitVec).toNat = (c ^^^ d).toNat := rfl
  rw [h]
  have := (c ^^^ d).toNat_lt
  generalize (c ^^^ d).toNat = z at *
  simp only [IntKind.wrap, IntKind.bits, IntKind.signed]; simp; omega
end Go.Proofs.YtckkbcgolphajaaDoor
