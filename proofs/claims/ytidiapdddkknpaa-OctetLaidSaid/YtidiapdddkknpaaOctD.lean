/-
  THE LAW OctetBack.
-/
import Derived.Test.YtidiapdddkknpaaOctB
namespace Go.Proofs.Ytidiapdddkknpaa
open Go.RowKit

theorem signN_dig (h : Nat) (hh : h < 16) : isDig (signN h) = true ∧ digV (signN h) = h := by
  by_cases h10 : h < 10
  · have e : signN h = 48 + h := if_pos h10
    rw [e]
    exact ⟨by simp [isDig]; omega, by rw [digV, if_pos (by omega)]; omega⟩
  · have e : signN h = 87 + h := if_neg h10
    rw [e]
    exact ⟨by simp [isDig]; omega, by rw [digV, if_neg (by omega)]; omega⟩

theorem dig_sign (x : Nat) (h : isDig x = true) : signN (digV x) = x := by
  simp only [isDig, Bool.or_eq_true, decide_eq_true_eq] at h
  simp only [signN, digV]
  split <;> split <;> omega

theorem hexL_get : ∀ (l : List UInt8) (k : Nat), k < l.length → (hexL l)[2 * k]?.getD 0 = signC ((l[k]?.getD 0).toNat / 16) ∧ (hexL l)[2 * k + 1]?.getD 0 = signC ((l[k]?.getD 0).toNat % 16)
  | [], k, h => by simp at h
  | c :: l, 0, _ => ⟨rfl, rfl⟩
  | c :: l, k + 1, h => by
    have := hexL_get l k (by simpa using h)
    have e : hexL (c :: l) = signC (c.toNat / 16) :: signC (c.toNat % 16) :: hexL l := rfl
    rw [e, show 2 * (k + 1) = 2 * k + 1 + 1 from by omega, show 2 * k + 1 + 1 + 1 = (2 * k + 1) + 1 + 1 from rfl]
    simpa using this

theorem hex_dig (l : List UInt8) (j : Nat) (hj : j < (hexL l).length) : isDig ((hexL l)[j]?.getD 0).toNat = true := by
  have hl := hexL_length l
  obtain ⟨k, hk⟩ : ∃ k, j = 2 * k ∨ j = 2 * k + 1 := ⟨j / 2, by omega⟩
  have hg := hexL_get l k (by omega)
  have hc := UInt8.toNat_lt (l[k]?.getD 0)
  rcases hk with rfl | rfl
  · rw [hg.1, signC_toNat _ (by omega)]; exact (signN_dig _ (by omega)).1
  · rw [hg.2, signC_toNat _ (by omega)]; exact (signN_dig _ (by omega)).1

theorem unhex_hex (l : List UInt8) : unhexR (hexL l) = (l, 0) := by
  have hl := hexL_length l
  rw [unhexR_yes (by omega) (fun k hk => hex_dig l k hk), hl, show 2 * l.length / 2 = l.length from by omega]
  congr 1
  apply List.ext_getElem
  · simp [unhexB]
  · intro k h1 h2
    have hg := hexL_get l k h2
    have hc := UInt8.toNat_lt l[k]
    simp only [unhexB, List.getElem_map, List.getElem_range]
    rw [hg.1, hg.2, List.getElem?_eq_getElem h2]
    simp only [Option.getD_some]
    rw [signC_toNat _ (by omega), signC_toNat _ (by omega), (signN_dig _ (by omega)).2, (signN_dig _ (by omega)).2, show 16 * (l[k].toNat / 16) + l[k].toNat % 16 = l[k].toNat from by omega]
    simp

theorem hexOk_at {l : List UInt8} (h : hexOk l = true) : l.length % 2 = 0 ∧ ∀ k, k < l.length → isDig (l[k]?.getD 0).toNat = true := by
  simp only [hexOk, Bool.and_eq_true, beq_iff_eq, List.all_eq_true] at h
  exact ⟨h.1, fun k hk => by rw [List.getElem?_eq_getElem hk]; exact h.2 _ (List.getElem_mem hk)⟩

theorem hex_unhex (l : List UInt8) (h : hexOk l = true) : hexL (unhexB l (l.length / 2)) = l := by
  obtain ⟨h1, h2⟩ := hexOk_at h
  have hlen := hexL_length (unhexB l (l.length / 2))
  rw [unhexB_length] at hlen
  apply List.ext_getElem
  · omega
  · intro j h3 h4
    obtain ⟨k, hk⟩ : ∃ k, j = 2 * k ∨ j = 2 * k + 1 := ⟨j / 2, by omega⟩
    have hkn : k < l.length / 2 := by omega
    have hg := hexL_get (unhexB l (l.length / 2)) k (by rw [unhexB_length]; exact hkn)
    have d1 := h2 (2 * k) (by omega)
    have d2 := h2 (2 * k + 1) (by omega)
    have e : ((unhexB l (l.length / 2))[k]?.getD 0).toNat = 16 * digV (l[2 * k]?.getD 0).toNat + digV (l[2 * k + 1]?.getD 0).toNat := by
      have l1 := digV_lt _ d1
      have l2 := digV_lt _ d2
      simp [unhexB, hkn, UInt8.toNat_ofNat'] <;> omega
    have l1 := digV_lt _ d1
    have l2 := digV_lt _ d2
    rw [e] at hg
    rcases hk with rfl | rfl
    · have := hg.1
      rw [List.getElem?_eq_getElem h3, show (16 * digV (l[2 * k]?.getD 0).toNat + digV (l[2 * k + 1]?.getD 0).toNat) / 16 = digV (l[2 * k]?.getD 0).toNat from by omega] at this
      simp only [Option.getD_some] at this
      rw [this]
      apply UInt8.toNat_inj.1
      rw [signC_toNat _ l1, dig_sign _ d1, List.getElem?_eq_getElem h4]
      rfl
    · have := hg.2
      rw [List.getElem?_eq_getElem h3, show (16 * digV (l[2 * k]?.getD 0).toNat + digV (l[2 * k + 1]?.getD 0).toNat) % 16 = digV (l[2 * k + 1]?.getD 0).toNat from by omega] at this
      simp only [Option.getD_some] at this
      rw [this]
      apply UInt8.toNat_inj.1
      rw [signC_toNat _ l2, dig_sign _ d2, List.getElem?_eq_getElem h4]
      rfl

theorem pad_same (l : List UInt8) (k : Nat) (hl : l.length = k) (hk : k ≤ 65536) : padR l (k : Int) = (l, 0) := by
  have hb := bareL_le l
  rw [padR_yes hk (by omega)]
  congr 1
  apply wholeL_inj
  · simp; omega
  · rw [wholeL_zeros, wholeL_bare]

end Go.Proofs.Ytidiapdddkknpaa
