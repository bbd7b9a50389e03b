/- What reads as a list of bytes. -/
import Derived.Test.YthnphlgkkfdnlaaDoorByt
namespace Go.Proofs.YthnphlgkkfdnlaaDoor.Draw
open Go Go.RowKit Byt

/-- v is a slice of the bytes l, which lie below block B. -/
def Reads (w : World) (v : Value) (l : List UInt8) (B : Nat) : Prop :=
  ∃ (a : Option Addr) (cap : Nat), v = .slice a l.length cap ∧ l.length ≤ 9223372036854775807 ∧
    (l = [] ∨ ∃ b off, a = some ⟨b, off, none⟩ ∧ b < B ∧ ∀ t, (h : t < l.length) → w.cell? ⟨b, off + t, none⟩ = some (.int .u8 (l[t].toNat : Int)))

theorem Reads.later {w w' : World} {v : Value} {l : List UInt8} {B : Nat} (h : Reads w v l B) (hb : Below B w w') : Reads w' v l B := by
  obtain ⟨a, cap, hv, hl, hc⟩ := h
  refine ⟨a, cap, hv, hl, hc.imp id ?_⟩
  rintro ⟨b, off, ha, hB, hcell⟩
  exact ⟨b, off, ha, hB, fun t ht => (hb.cell (p := ⟨b, off + t, none⟩) hB).trans (hcell t ht)⟩
end Go.Proofs.YthnphlgkkfdnlaaDoor.Draw
