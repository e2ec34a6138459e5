/-
  WALKS OF NAT's Read AND Bytes.
-/
import Derived.Test.YtfeajcgcjpngkaaNat3
namespace Go.Proofs.Ytfeajcgcjpngkaa
open Go.RowKit

theorem Try.info8 : (Try.prog.info? 5).map (fun i => (i.zero, i.size, i.bytes)) = some (some (.int .u8 0), 1, 1) := by kernel_rfl

abbrev Byt (l : List Nat) : Prop := ∀ x ∈ l, x < 256

theorem valB_set (b : Nat) : ∀ (l : List Nat) (t d : Nat), t < l.length → valB b (l.set t d) + b ^ t * (l[t]?.getD 0) = valB b l + b ^ t * d
  | [], t, d, h => by simp at h
  | c :: l, 0, d, _ => by simp [valB]; omega
  | c :: l, t + 1, d, h => by
    have := valB_set b l t d (by simpa using h)
    simp only [List.set_cons_succ, valB, List.getElem?_cons_succ, Nat.pow_succ]
    have e1 : b ^ t * b * (l[t]?.getD 0) = b * (b ^ t * (l[t]?.getD 0)) := by rw [Nat.mul_comm (b ^ t) b, Nat.mul_assoc]
    have e2 : b ^ t * b * d = b * (b ^ t * d) := by rw [Nat.mul_comm (b ^ t) b, Nat.mul_assoc]
    have e3 : b * (valB b (l.set t d) + b ^ t * (l[t]?.getD 0)) = b * (valB b l + b ^ t * d) := by rw [this]
    rw [Nat.mul_add, Nat.mul_add] at e3
    omega

theorem valB_succ {b : Nat} (l : List Nat) (k : Nat) : valB b (l.take (k + 1)) = valB b (l.take k) + b ^ k * (l[k]?.getD 0) := by
  by_cases hk : k < l.length
  · rw [take_snocN l k hk, valB_snoc, List.length_take, Nat.min_eq_left (by omega)]
  · rw [List.take_of_length_le (by omega), List.take_of_length_le (by omega), List.getElem?_eq_none (by omega)]; simp

theorem pow32 (t : Nat) : (4294967296 : Nat) ^ t = 256 ^ (4 * t) := by rw [Nat.pow_mul]

/-- A step of Read: a byte goes to its limb. -/
theorem read_step (X m : List Nat) (k : Nat) (hX : Lim X) (hm : Byt m) (hk : k < m.length) (hL : X.length = (m.length + 3) / 4) (hv : val32 X = valB 256 (m.take k)) :
    X[k / 4]?.getD 0 < 256 ^ (k % 4) ∧ val32 (X.set (k / 4) (X[k / 4]?.getD 0 + 256 ^ (k % 4) * (m[k]?.getD 0))) = valB 256 (m.take (k + 1)) ∧ X[k / 4]?.getD 0 + 256 ^ (k % 4) * (m[k]?.getD 0) < 256 ^ (k % 4 + 1) := by
  have h1 : X[k / 4]?.getD 0 < 256 ^ (k % 4) := by
    rw [valB_get (by decide) hX (k / 4)]
    refine Nat.lt_of_le_of_lt (Nat.mod_le _ _) ?_
    rw [Nat.div_lt_iff_lt_mul (Nat.pow_pos (by decide))]
    have h2 := valB_lt (b := 256) (by decide) (l := m.take k) (fun x hx => hm x (List.mem_of_mem_take hx))
    rw [List.length_take, Nat.min_eq_left (by omega)] at h2
    rw [pow32, ← Nat.pow_add, show k % 4 + 4 * (k / 4) = k from by omega]
    show val32 X < _
    omega
  have h3 : m[k]?.getD 0 < 256 := by rw [List.getElem?_eq_getElem hk]; exact hm _ (List.getElem_mem _)
  refine ⟨h1, ?_, ?_⟩
  · have h4 := valB_set 4294967296 X (k / 4) (X[k / 4]?.getD 0 + 256 ^ (k % 4) * (m[k]?.getD 0)) (by omega)
    rw [Nat.mul_add] at h4
    have h5 := valB_succ (b := 256) m k
    have h6 : (4294967296 : Nat) ^ (k / 4) * (256 ^ (k % 4) * (m[k]?.getD 0)) = 256 ^ k * (m[k]?.getD 0) := by
      rw [pow32, ← Nat.mul_assoc, ← Nat.pow_add, show 4 * (k / 4) + k % 4 = k from by omega]
    simp only [val32] at *
    omega
  · rw [Nat.pow_succ]
    have : 256 ^ (k % 4) * (m[k]?.getD 0) ≤ 256 ^ (k % 4) * 255 := Nat.mul_le_mul_left _ (by omega)
    omega

theorem bare_len_eq {X : List Nat} (h : (bareN X).length = X.length) : bareN X = X := by
  have := bareN_prefix X
  rw [h, List.take_length] at this
  exact this

theorem read_end (X m : List Nat) (v : Nat) (hX : Lim X) (hm : m = natB 256 v) (hL : X.length = (m.length + 3) / 4) (hv : val32 X = v) : X = nat32 v := by
  have h1 := bareN_nat hX
  rw [hv] at h1
  have h2 : ∀ k, (nat32 v).length ≤ k ↔ m.length ≤ 4 * k := fun k => by
    rw [hm, natB_length (by decide), natB_length (by decide), pow32]
  have h3 : (bareN X).length = X.length := by
    rw [h1, hL]
    have a := (h2 ((m.length + 3) / 4)).2 (by omega)
    have b := (h2 (nat32 v).length).1 (Nat.le_refl _)
    omega
  rw [← h1, bare_len_eq h3]

theorem mem_set {X : List Nat} {b t d : Nat} (h : ∀ x ∈ X, x < b) (hd : d < b) : ∀ x ∈ X.set t d, x < b := fun x hx => by
  rcases List.mem_or_eq_of_mem_set hx with h1 | rfl
  · exact h x h1
  · exact hd

theorem OwnQ.made {q : IntKind} {E : TypeId} {B : Nat} {w : World} {g n : Nat} {z : List Value} (h : w.ownsRow B E 1 (.slice (some ⟨g, 0, none⟩) n n) n z) (hz : z = (madeCells (Value.int q 0).cells (n * 1)).toList) : OwnQ q E B w (.slice (some ⟨g, 0, none⟩) n n) (List.replicate n 0) := by
  unfold OwnQ
  rw [← zeros_q, ← hz]
  simpa using h

theorem shl_or (x c s : Nat) (p : Nat) (hp : p = 2 ^ s) (hx : x < p) : x ||| (c * p) = x + p * c := by
  subst hp
  rw [Nat.or_comm, Nat.mul_comm c, Nat.mul_comm, ← Nat.shiftLeft_eq, ← Nat.shiftLeft_add_eq_or_of_lt hx, Nat.shiftLeft_eq]
  rw [Nat.mul_comm]; omega

end Go.Proofs.Ytfeajcgcjpngkaa
