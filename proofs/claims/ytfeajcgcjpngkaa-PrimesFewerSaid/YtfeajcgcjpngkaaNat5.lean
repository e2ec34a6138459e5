/-
  WALKS OF NAT's Read AND Bytes.
-/
import Derived.Test.YtfeajcgcjpngkaaNat4
namespace Go.Proofs.Ytfeajcgcjpngkaa
open Go.RowKit

theorem or_step (d c p : Nat) (x : Int) (s : Nat) (hp : p = 2 ^ s) (hs : 256 * p ≤ 4294967296) (hd : d < p) (hc : c < 256) (hx : x = (c * p : Nat)) : bits BinOp.or IntKind.u32 (d : Int) x = ((d + p * c : Nat) : Int) := by
  have h1 : c * p ≤ 255 * p := Nat.mul_le_mul_right _ (by omega)
  rw [hx, u32_or_nat _ _ (by omega) (by omega), shl_or d c s p hp hd]

theorem lim8_get {l : List Nat} (h : Byt l) (k : Nat) : l[k]?.getD 0 < 256 := by
  by_cases hk : k < l.length
  · rw [List.getElem?_eq_getElem hk]; exact h _ (List.getElem_mem _)
  · rw [List.getElem?_eq_none (by omega)]; decide

theorem fun_below {B : Nat} {w wr w' : World} (h : Below B w wr) (g : ∀ w0, Below B w0 wr → Below B w0 w') : Below B w w'.drew := (g w h).drew

theorem readR_small {l m : List Nat} (hm : bareN l.reverse = m) (hB : Byt l) (hc : m.length ≤ 1024) : valB 256 l.reverse < topN ∧ m = natB 256 (valB 256 l.reverse) := by
  have hB' : Byt l.reverse := fun x hx => hB x (List.mem_reverse.1 hx)
  exact ⟨(cut_iff8 _ hB').1 (by rw [hm]; exact hc), by rw [← hm, bareN_eq (by decide) hB']⟩

theorem OwnQ.four (q : IntKind) (w : World) (E : TypeId) (B : Nat) (hB : B ≤ w.heap.size) (x0 x1 x2 x3 : Int) (c0 c1 c2 c3 : Nat) (h0 : x0 = c0) (h1 : x1 = c1) (h2 : x2 = c2) (h3 : x3 = c3) : OwnQ q E B (w.alloc (.cells #[.int q x0, .int q x1, .int q x2, .int q x3] E)) (.slice (some ⟨w.heap.size, 0, .none⟩) 4 4) [c0, c1, c2, c3] := by
  subst h0 h1 h2 h3
  exact World.ownsRow_lit w #[.int q c0, .int q c1, .int q c2, .int q c3] 4 hB (by unfold maxLen; omega) rfl

def four (d : Nat) : List Nat := [d % 256, d / 256 % 256, d / 65536 % 256, d / 16777216 % 256]
def fours (l : List Nat) : List Nat := l.flatMap four

theorem fours_snoc (l : List Nat) (k : Nat) (hk : k < l.length) : fours (l.take (k + 1)) = fours (l.take k) ++ four (l[k]?.getD 0) := by
  rw [take_snocN l k hk, fours, List.flatMap_append, List.flatMap_singleton]; rfl

theorem fours_val {l : List Nat} (h : Lim l) : valB 256 (fours l) = val32 l := by
  induction l with
  | nil => rfl
  | cons d t ih =>
    have h1 := ih (fun x hx => h x (List.mem_cons_of_mem _ hx))
    have h2 := h d List.mem_cons_self
    rw [fours, List.flatMap_cons, valB_append, show List.flatMap four t = fours t from rfl, h1]
    simp only [four, valB, List.length_cons, List.length_nil, val32]
    omega

theorem fours_byt (l : List Nat) : Byt (fours l) := by
  intro x hx
  obtain ⟨d, _, hd⟩ := List.mem_flatMap.1 hx
  simp only [four, List.mem_cons, List.not_mem_nil, or_false] at hd
  omega

theorem fours_len (l : List Nat) : (fours l).length = 4 * l.length := by
  induction l with
  | nil => rfl
  | cons d t ih => rw [fours, List.flatMap_cons, List.length_append, show List.flatMap four t = fours t from rfl, ih]; simp [four]; omega

end Go.Proofs.Ytfeajcgcjpngkaa