/-
  OID: the law OidBytes. (Written by wip/gen_oid9.py.)
-/
import Derived.Test.YtojphfkiblhhiaaDoorOid8
namespace Go.Proofs.YtojphfkiblhhiaaDoor
open Go.RowKit
set_option maxRecDepth 100000

theorem reads_of_bytes {w : World} {a : Option Addr} {len cap : Nat} {zs : List Int}
    (h : (a = .none ∧ len = 0 ∧ cap = 0 ∧ zs = []) ∨ ∃ x, a = some x ∧ len ≤ cap ∧ cap ≤ maxLen ∧ zs.length = cap ∧ (∀ i, i < zs.length → w.cell? (x.add i) = some (.int .u8 (zs.getD i 0))) ∧ ∀ n ∈ zs, (Lit.int .u8 n).wf = true) :
    ∃ l : List Nat, Reads .u8 w a len cap l ∧ ∀ x ∈ l, x < 256 := by
  rcases h with ⟨rfl, rfl, rfl, rfl⟩ | ⟨x, rfl, hl, hm, hz, hc, hw⟩
  · exact ⟨[], Reads.none _ w, fun _ h => by cases h⟩
  · have hbd : ∀ n ∈ zs, 0 ≤ n ∧ n < 256 := fun n hn => by
      have := hw n hn
      simp [Lit.wf, IntKind.min, IntKind.max, IntKind.signed, IntKind.bits] at this
      omega
    refine ⟨(zs.take len).map fun n => n.toNat, ⟨by simp; omega, hl, hm, (fun h => by cases h), fun hp => ?_⟩, fun y hy => ?_⟩
    · obtain ⟨b, off, spot⟩ := x
      have h0 := hc 0 (by omega)
      have hs : spot = .none := by simpa [Addr.add] using World.cell?_spot h0
      subst hs
      refine ⟨b, off, rfl, World.block_lt_of_cell? w _ (by simpa [Addr.add] using h0), fun i hi => ?_⟩
      have hci := hc i (by omega)
      have e : (⟨b, off, .none⟩ : Addr).add i = ⟨b, off + i, .none⟩ := by unfold Addr.add; split <;> simp_all
      rw [e] at hci
      rw [hci]
      have hlt : i < zs.length := by omega
      have hb := hbd zs[i] (List.getElem_mem _)
      have h1 : zs.getD i 0 = zs[i] := by simp [List.getD, hlt]
      rw [h1]
      simp [hi, hlt]
      omega
    · obtain ⟨n, hn, rfl⟩ := List.mem_map.1 hy
      have := hbd n (List.mem_of_mem_take hn)
      omega


theorem form_zero : formO 0 = [0] := by kernel_rfl
theorem read_more {l : List Nat} (h : OidOk l) (h2 : l.length < 20) : readO (bytesO l ++ [0]) = (l ++ [0], 0) := by
  have e := bytesO_snoc h.1 0
  rw [form_zero] at e
  rw [← e]
  exact readO_yes (h.snoc h2 (by decide))
theorem read_full {l : List Nat} (h : OidOk l) (h2 : ¬ l.length < 20) : readO (bytesO l ++ [0]) = ([], 140) := by
  rcases readO_cases (bytesO l ++ [0]) with ⟨m, hm, e, _⟩ | ⟨_, e⟩
  · exfalso
    have h3 := runR_snoc (bytesO l) 0
    rw [e, runR_bytes hm, runR_bytes h] at h3
    have hl : l ≠ [] := fun e => by have := h.1; rw [e] at this; simp at this
    have h4 := congrArg Prod.fst h3
    simp only [stepR, accO, pushO, if_neg hl] at h4
    simp at h4
    have := hm.2.1
    rw [h4, List.length_append] at this
    simp at this
    omega
  · exact e

end Go.Proofs.YtojphfkiblhhiaaDoor