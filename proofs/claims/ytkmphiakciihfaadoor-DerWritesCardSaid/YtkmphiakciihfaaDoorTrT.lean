/-
  WHETHER A TREE IS GREATER THAN STATEMENTS GO THROUGH: the law's weigh and great, walked by induction on the tree.
-/
import Derived.Test.YtkmphiakciihfaaDoorTrM
namespace Go.Proofs.YtkmphiakciihfaaDoor
open Go.RowKit

mutual
/-- What is left behind a tree. -/
def weighT : Tr → Int → Int → Int
  | .mk _ _ _ l ks, left, d => weighK ks (left - 1 - (l.length : Int)) d
def weighK : List Tr → Int → Int → Int
  | [], left, _ => left
  | t :: ts, left, d => if left < 0 then left else if d < 1 then -1 else weighK ts (weighT t left (d - 1)) d
end

theorem weighK_neg (ks : List Tr) (x d : Int) (h : x < 0) : weighK ks x d = x := by
  cases ks with
  | nil => rfl
  | cons t ts => rw [weighK, if_pos h]

mutual
theorem weighT_le : ∀ (T : Tr) (left d : Int), weighT T left d ≤ left - 1 ∨ weighT T left d = -1 ∧ 0 ≤ left
  | .mk c t k l ks, left, d => by
    rw [weighT]
    have := weighK_le ks (left - 1 - (l.length : Int)) d
    omega
theorem weighK_le : ∀ (ks : List Tr) (left d : Int), weighK ks left d ≤ left ∨ weighK ks left d = -1 ∧ 0 ≤ left
  | [], left, d => by rw [weighK]; omega
  | t :: ts, left, d => by
    rw [weighK]
    split
    · omega
    · split
      · omega
      · have h1 := weighT_le t left (d - 1)
        have h2 := weighK_le ts (weighT t left (d - 1)) d
        omega
end

mutual
theorem weighT_ok : ∀ (T : Tr) (left d : Int), 0 ≤ weighT T left d → weighT T left d + T.wt ≤ left ∧ (0 ≤ d → (T.dep : Int) ≤ d + 1)
  | .mk c t k l ks, left, d => by
    rw [weighT, Tr.wt, Tr.dep]
    intro h
    have := weighK_ok ks (left - 1 - (l.length : Int)) d h
    omega
theorem weighK_ok : ∀ (ks : List Tr) (left d : Int), 0 ≤ weighK ks left d → weighK ks left d + wtL ks ≤ left ∧ (0 ≤ d → (depL ks : Int) ≤ d)
  | [], left, d => by rw [weighK, wtL, depL]; omega
  | t :: ts, left, d => by
    rw [weighK, wtL, depL]
    split
    · omega
    · split
      · omega
      · intro h
        have h2 := weighK_ok ts (weighT t left (d - 1)) d h
        have h3 := weighT_ok t left (d - 1) (by have := weighK_le ts (weighT t left (d - 1)) d; by_cases hz : weighT t left (d - 1) < 0; (rw [weighK_neg _ _ _ hz] at h; omega); omega)
        omega
end

theorem ret_iT {a b : Int} (h : a = b) : Ending.returned (.int .i64 a) = .returned (.int .i64 b) := by rw [h]
theorem ret_bT {a b : Bool} (h : a = b) : Ending.returned (.bool a) = .returned (.bool b) := by rw [h]

structure WghI (w1 : World) (ks : List Tr) (d tot : Int) (k : Nat) (x : Int) (wr : World) : Prop where
  same : weighK (ks.drop k) x d = tot
  lo : -9223372036854775808 ≤ x
  hi : x ≤ 10000
  below : Below w1.heap.size w1 wr

/-- Is a tree greater than statements go through? -/
def greatT (T : Tr) : Bool := decide (weighT T 10000 200 < 0)

mutual
theorem Tr.cnt_wt : ∀ T : Tr, T.cnt ≤ T.wt
  | .mk _ _ _ _ ks => by simp only [Tr.cnt, Tr.wt]; have := cntL_wtL ks; omega
theorem cntL_wtL : ∀ l : List Tr, cntL l ≤ wtL l
  | [] => Nat.le_refl _
  | t :: ts => by simp only [cntL, wtL]; have := t.cnt_wt; have := cntL_wtL ts; omega
end

theorem great_no {T : Tr} (h : greatT T = false) : T.wt ≤ 10000 ∧ T.cnt ≤ 10000 ∧ T.dep ≤ 201 := by
  have hc := T.cnt_wt
  have h2 : ¬ (weighT T 10000 200 < 0) := by simpa [greatT] using h
  have := weighT_ok T 10000 200 (by omega)
  omega

end Go.Proofs.YtkmphiakciihfaaDoor