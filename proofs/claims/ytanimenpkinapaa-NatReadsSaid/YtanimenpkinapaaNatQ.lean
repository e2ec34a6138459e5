/-
  BYTES THAT CAME IN, AS NatReads READS THEM.
-/
import Derived.Test.YtanimenpkinapaaNatP
namespace Go.Proofs.Ytanimenpkinapaa
open Go.RowKit

theorem bytes_of_row {w : World} {a : Option Addr} {len cap : Nat} {zs : List Int}
    (h : (a = .none ∧ len = 0 ∧ cap = 0 ∧ zs = []) ∨ ∃ x, a = some x ∧ len ≤ cap ∧ cap ≤ maxLen ∧ zs.length = cap ∧ (∀ i, i < zs.length → w.cell? (x.add i) = some (.int .u8 (zs.getD i 0))) ∧ ∀ n ∈ zs, (Lit.int .u8 n).wf = true) :
    ∃ l : List Nat, Reads .u8 w a len cap l ∧ Byt l := by
  obtain ⟨l, hl⟩ := bts_of_row h
  refine ⟨l.map fun c => c.toNat, ⟨by rw [List.length_map, hl.length], hl.le, hl.max, hl.nil, fun hp => ?_⟩, fun x hx => ?_⟩
  · obtain ⟨b, off, ha, hb, hc⟩ := hl.cells hp
    refine ⟨b, off, ha, hb, fun i hi => ?_⟩
    rw [hc i hi]
    have hlt : i < l.length := by rw [hl.length]; exact hi
    simp [hlt]
  · obtain ⟨c, _, rfl⟩ := List.mem_map.1 hx
    exact UInt8.toNat_lt c

end Go.Proofs.Ytanimenpkinapaa
