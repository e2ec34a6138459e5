/-
  UTF-8 OF BYTES AS NUMBERS: what of the kit's decoder is wanted. Nothing of the program stands here.
-/
import Derived.Test.YtkmphiakciihfaaDoorTcJ
import Derived.Test.YtkmphiakciihfaaDoorByt
import Derived.Lib.ValidAsc
namespace Go.Proofs.YtkmphiakciihfaaDoor
open Go.RowKit

def validN (l : List Nat) : Bool := Lib.validD (u8s l)

theorem u8s_drop (l : List Nat) (k : Nat) : u8s (l.drop k) = (u8s l).drop k := List.map_drop
theorem u8s_take (l : List Nat) (k : Nat) : u8s (l.take k) = (u8s l).take k := List.map_take
theorem u8s_len (l : List Nat) : (u8s l).length = l.length := List.length_map ..

theorem valid_nil : validN [] = true := rfl
theorem valid_drop (l : List Nat) (k : Nat) (h : ∀ x ∈ l.take k, x < 128) : validN (l.drop k) = validN l := by
  unfold validN
  rw [Lib.validD_ascii k (u8s l) ?_, u8s_drop]
  intro b hb
  rw [← u8s_take] at hb
  obtain ⟨x, hx, rfl⟩ := List.mem_map.1 hb
  have := h x hx
  rw [UInt8.toNat_ofNat']
  omega

theorem leNat_word (l : List Nat) (h8 : 8 ≤ l.length) (hx : Byt l) : Lib.leNat ((u8s l).take 8) = wordN l := by
  match l, h8 with
  | x0 :: x1 :: x2 :: x3 :: x4 :: x5 :: x6 :: x7 :: r, _ =>
    have y0 : x0 < 256 := hx x0 (by simp)
    have y1 : x1 < 256 := hx x1 (by simp)
    have y2 : x2 < 256 := hx x2 (by simp)
    have y3 : x3 < 256 := hx x3 (by simp)
    have y4 : x4 < 256 := hx x4 (by simp)
    have y5 : x5 < 256 := hx x5 (by simp)
    have y6 : x6 < 256 := hx x6 (by simp)
    have y7 : x7 < 256 := hx x7 (by simp)
    simp only [u8s, List.map_cons, List.take_succ_cons, List.take_zero, Lib.leNat, UInt8.toNat_ofNat']
    simp only [wordN, gN, List.getElem?_cons_zero, List.getElem?_cons_succ, Option.getD_some]
    omega

theorem word_mask (l : List Nat) (h8 : 8 ≤ l.length) (hx : Byt l) : (wordN l &&& 9259542123273814144 = 0) ↔ ∀ x ∈ l.take 8, x < 128 := by
  have hl : ((u8s l).take 8).length = 8 := by rw [List.length_take, u8s_len]; omega
  have h := Lib.leNat_mask ((u8s l).take 8)
  rw [hl, Lib.maskN8, leNat_word l h8 hx] at h
  rw [h, ← u8s_take]
  constructor
  · intro g x hm
    have := g (UInt8.ofNat x) (List.mem_map.2 ⟨x, hm, rfl⟩)
    have hb := hx x (List.mem_of_mem_take hm)
    rw [UInt8.toNat_ofNat'] at this
    omega
  · intro g b hb
    obtain ⟨x, hm, rfl⟩ := List.mem_map.1 hb
    have := g x hm
    rw [UInt8.toNat_ofNat']
    omega

theorem word_lt (l : List Nat) (hx : Byt l) : wordN l < 18446744073709551616 := by
  have y0 := gN_lt hx 0
  have y1 := gN_lt hx 1
  have y2 := gN_lt hx 2
  have y3 := gN_lt hx 3
  have y4 := gN_lt hx 4
  have y5 := gN_lt hx 5
  have y6 := gN_lt hx 6
  have y7 := gN_lt hx 7
  unfold wordN
  omega

/-- The first k are below 128. -/
def Asc (l : List Nat) (k : Nat) : Prop := ∀ x ∈ l.take k, x < 128
theorem asc_add {l : List Nat} {a b : Nat} (ha : Asc l a) (hb : Asc (l.drop a) b) : Asc l (a + b) := by
  intro x hx
  rw [List.take_add] at hx
  rcases List.mem_append.1 hx with h | h
  · exact ha x h
  · exact hb x h
theorem asc_one {l : List Nat} (h : gN l 0 < 128) : Asc l 1 := by
  cases l with
  | nil => intro x hx; cases hx
  | cons y r =>
    intro x hx
    simp [gN] at hx h
    omega

theorem valid_lead (l : List Nat) (hx : Byt l) (hne : 0 < l.length) (h0 : 128 ≤ gN l 0) :
    validN l = match Lib.checkN l.length (gN l 1) (gN l 2) (gN l 3) (Lib.firstT (gN l 0) % 8) (Lib.accLo (Lib.firstT (gN l 0) / 16)) (Lib.accHi (Lib.firstT (gN l 0) / 16)) with
      | none => false
      | some k => validN (l.drop k) := by
  have e : ∀ i, ((u8s l).getD i 0).toNat = gN l i := fun i => by rw [List.getD_eq_getElem?_getD]; exact u8s_get l hx i
  have h := Lib.validD_lead (u8s l) (by intro h; have := u8s_len l; rw [h] at this; simp at this; omega) (by rw [e]; exact h0)
  rw [e, e, e, e, u8s_len] at h
  unfold validN
  rw [h]
  cases Lib.checkN l.length (gN l 1) (gN l 2) (gN l 3) (Lib.firstT (gN l 0) % 8) (Lib.accLo (Lib.firstT (gN l 0) / 16)) (Lib.accHi (Lib.firstT (gN l 0) / 16)) with
  | none => rfl
  | some k => simp only [u8s_drop]

/-- A slice of as many as it can hold, from a place on that is not its end. -/
theorem Reads.tail {q : IntKind} {w : World} {b off n k : Nat} {l : List Nat} (h : Reads q w (some ⟨b, off, .none⟩) n n l) (hk : k < n) : Reads q w (some ⟨b, off + k, .none⟩) (n - k) (n - k) (l.drop k) := by
  have := h.sub k n (by omega) (Nat.le_refl _)
  rw [if_neg (by omega)] at this
  have e : l.take n = l := List.take_of_length_le (Nat.le_of_eq h.length)
  rw [e] at this
  have e2 : Option.map (fun x : Addr => x.add k) (some ⟨b, off, .none⟩) = some ⟨b, off + k, .none⟩ := by simp [Addr.add]
  rw [← e2]
  exact this
theorem Reads.trim {q : IntKind} {w : World} {a : Option Addr} {n c : Nat} {l : List Nat} (h : Reads q w a n c l) : Reads q w a n n l :=
  ⟨h.length, Nat.le_refl _, h.len_le, fun ha => by have := h.nil ha; have := h.le; omega, h.cells⟩

end Go.Proofs.YtkmphiakciihfaaDoor
