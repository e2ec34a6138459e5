/-
  WALKS OF OCTET's Whole AND Big, AND THE REFERENCE's.
-/
import Derived.Test.YtidiapdddkknpaaOct1
namespace Go.Proofs.Ytidiapdddkknpaa
open Go.RowKit

def wholeL (l : List UInt8) : Nat := l.foldl (fun n c => 256 * n + c.toNat) 0

theorem wholeL_snoc (l : List UInt8) (c : UInt8) : wholeL (l ++ [c]) = 256 * wholeL l + c.toNat := by simp [wholeL]

theorem take_snoc8 (l : List UInt8) (k : Nat) (hk : k < l.length) : l.take (k + 1) = l.take k ++ [l[k]?.getD 0] := by
  rw [List.take_add_one, List.getElem?_eq_getElem hk]; rfl

theorem wholeL_step (l : List UInt8) (k : Nat) (hk : k < l.length) : wholeL (l.take (k + 1)) = 256 * wholeL (l.take k) + (l[k]?.getD 0).toNat := by
  rw [take_snoc8 l k hk, wholeL_snoc]

theorem wholeL_lt (l : List UInt8) : wholeL l < 256 ^ l.length := by
  suffices h : ∀ (l : List UInt8) (n k : Nat), n < 256 ^ k → l.foldl (fun n c => 256 * n + c.toNat) n < 256 ^ (k + l.length) by
    simpa [wholeL] using h l 0 0 (by decide)
  intro l
  induction l with
  | nil => intro n k h; simpa using h
  | cons c l ih =>
    intro n k h
    have hc := UInt8.toNat_lt c
    have := ih (256 * n + c.toNat) (k + 1) (by rw [Nat.pow_succ]; omega)
    simpa [Nat.add_assoc, Nat.add_comm 1] using this

theorem wholeL_append (a b : List UInt8) : wholeL (a ++ b) = wholeL a * 256 ^ b.length + wholeL b := by
  suffices h : ∀ (b : List UInt8) (n : Nat), b.foldl (fun n c => 256 * n + c.toNat) n = n * 256 ^ b.length + b.foldl (fun n c => 256 * n + c.toNat) 0 by
    rw [wholeL, List.foldl_append, h]; rfl
  intro b
  induction b with
  | nil => intro n; simp
  | cons c b ih =>
    intro n
    rw [List.foldl_cons, ih, List.foldl_cons, ih (256 * 0 + c.toNat), List.length_cons, Nat.pow_succ]
    have : (256 * n + c.toNat) * 256 ^ b.length = n * (256 ^ b.length * 256) + (256 * 0 + c.toNat) * 256 ^ b.length := by
      rw [Nat.add_mul, Nat.mul_zero, Nat.zero_add, Nat.mul_comm 256 n, Nat.mul_assoc, Nat.mul_comm 256 (256 ^ b.length)]
    omega

theorem wholeL_bare (l : List UInt8) : wholeL (bareL l) = wholeL l := by
  induction l with
  | nil => rfl
  | cons c l ih =>
    rw [bareL, List.dropWhile_cons]
    by_cases h : c = 0
    · subst h
      rw [if_pos (by rfl)]
      rw [show List.dropWhile (fun x => x == 0) l = bareL l from rfl, ih]
      simp [wholeL]
    · rw [if_neg (by simpa using h)]

theorem wholeL_ge (c : UInt8) (l : List UInt8) (hc : c ≠ 0) : 256 ^ l.length ≤ wholeL (c :: l) := by
  have h := wholeL_append [c] l
  have h1 : wholeL [c] = c.toNat := by simp [wholeL]
  have h2 : c.toNat ≠ 0 := fun e => hc (UInt8.toNat_inj.1 (by simpa using e))
  rw [h1] at h
  have h3 : 1 * 256 ^ l.length ≤ c.toNat * 256 ^ l.length := Nat.mul_le_mul_right _ (by omega)
  rw [show [c] ++ l = c :: l from rfl] at h
  omega

theorem bareL_head (l : List UInt8) (c : UInt8) (m : List UInt8) (h : bareL l = c :: m) : c ≠ 0 := by
  intro e
  have := List.head?_dropWhile_not (fun x : UInt8 => x == 0) l
  rw [show List.dropWhile (fun x : UInt8 => x == 0) l = c :: m from h] at this
  simp [e] at this

theorem big_iff (l : List UInt8) : 8 < (bareL l).length ↔ 256 ^ 8 ≤ wholeL l := by
  rw [← wholeL_bare]
  constructor
  · intro h
    cases hb : bareL l with
    | nil => rw [hb] at h; simp at h
    | cons c m =>
      rw [hb] at h
      have h1 := wholeL_ge c m (bareL_head l c m hb)
      have h2 : 256 ^ 8 ≤ 256 ^ m.length := Nat.pow_le_pow_right (by decide) (by simp at h; omega)
      omega
  · intro h
    have h1 := wholeL_lt (bareL l)
    by_cases hc : 8 < (bareL l).length
    · exact hc
    · have h2 : 256 ^ (bareL l).length ≤ 256 ^ 8 := Nat.pow_le_pow_right (by decide) (by omega)
      omega

def wVal (l : List UInt8) : Int := if 8 < (bareL l).length then 0 else wholeL l
def wErr (l : List UInt8) : Int := if 8 < (bareL l).length then 10 else 0
def WholeIs (l : List UInt8) (e : Ending) : Prop := e = .returned (.tuple #[.int .u64 (wVal l), .int .i64 (wErr l)])

theorem WholeIs.big {l : List UInt8} (h : 8 < (bareL l).length) : WholeIs l (.returned (.tuple #[.int .u64 0, .int .i64 10])) := by simp [WholeIs, wVal, wErr, h]
theorem WholeIs.fits {l : List UInt8} {n : Nat} (h : ¬ 8 < (bareL l).length) (hn : n = wholeL l) : WholeIs l (.returned (.tuple #[.int .u64 (n : Int), .int .i64 0])) := by simp [WholeIs, wVal, wErr, h, hn]

theorem or8 (v x : Nat) (hv : v ≤ 72057594037927935) (hx : x < 256) : bits BinOp.or IntKind.u64 ((v : Int) * 256) (x : Int) = ((256 * v + x : Nat) : Int) := by
  rw [show ((v : Int) * 256) = ((v * 256 : Nat) : Int) from by omega, u64_or_nat _ _ (by omega) (by omega), nat_join 8 _ _ (by omega) (by omega)]
  omega

theorem wrap8 (v x : Nat) (hv : v ≤ 72057594037927935) (hx : x < 256) : IntKind.u64.wrap (IntKind.u64.wrap (256 * (v : Int)) + (x : Int)) = ((256 * v + x : Nat) : Int) := by
  simp only [IntKind.wrap, IntKind.bits, IntKind.signed]
  simp
  omega

set_option maxHeartbeats 400000 in
theorem whole_any (a : Option Addr) (len cap : Nat) (l : List UInt8) (w : World) (h : Bts w a len cap l) :
    Calls Try.prog 18 #[.slice a len cap] w fun e w' => WholeIs l e ∧ w = w' := by
  have hb := bare_any a len cap l w h
  clear h
  by_cases h8 : 8 < (bareL l).length
  · go_enter Try.func18, Try.ntmps18
    go_wp2_with fail
    refine hb.mono ?_
    rintro e w1 ⟨⟨a', c', rfl, hr⟩, rfl⟩
    go_wp2
    go_ret2
    exact ⟨WholeIs.big h8, rfl⟩
  · have hlt8 : (bareL l).length ≤ 8 := by omega
    have H8 := Lib.hid h8
    clear h8
    have HW := Lib.hid (wholeL_bare l)
    go_enter Try.func18, Try.ntmps18
    go_wp2_with fail
    refine hb.mono ?_
    rintro e w1 ⟨⟨a', c', rfl, hr⟩, rfl⟩
    generalize hm : bareL l = m at *
    have Hm := Lib.hid hm
    clear hb hm
    have H := Lib.hid hr
    clear hr
    generalize hn : m.length = n at *
    have Hn := Lib.hid hn
    clear hn
    go_wp2
    go_loop [4, 14] (fun v i => ∃ k : Nat, k ≤ n ∧ i = .int .i64 k ∧ v = .int .u64 (wholeL (m.take k))) (fun _ i => n - (intOf i).toNat)
    case atStart => exact ⟨0, Nat.zero_le _, rfl, rfl⟩
    case round =>
      obtain ⟨k, hk, rfl, rfl⟩ := hrel
      by_cases hlt : k < n
      · obtain ⟨b, off, rfl, hbl, hc⟩ := H.out.cells (by omega)
        have hck := hc k hlt
        have hst := Lib.hid (wholeL_step m k (by rw [Hn.out]; exact hlt))
        have hlw : wholeL (m.take k) ≤ 72057594037927935 := by
          have h1 := wholeL_lt (m.take k)
          have h2 : 256 ^ (m.take k).length ≤ 256 ^ 7 := Nat.pow_le_pow_right (by decide) (by rw [List.length_take]; omega)
          have h3 : 256 ^ 7 = 72057594037927936 := by decide
          omega
        have hx8 := UInt8.toNat_lt (m[k]?.getD 0)
        clear hc
        generalize (m[k]?.getD 0).toNat = x at *
        generalize wholeL (m.take k) = v at *
        go_wp2
        go_round
        case rel => exact ⟨k + 1, by omega, by go_num, by rw [or8 v x hlw hx8, hst.out]⟩
        case measure => simp [intOf]; omega
      · go_wp2
        go_ret2
        exact ⟨WholeIs.fits (by rw [Hm.out, Hn.out]; omega) (by rw [← HW.out, List.take_of_length_le (by rw [Hn.out]; omega)]), rfl⟩

set_option maxRecDepth 100000 in
set_option maxHeartbeats 400000 in
theorem refwhole_any (a : Option Addr) (len cap : Nat) (l : List UInt8) (w : World) (h : Bts w a len cap l) :
    Calls Try.prog 19 #[.slice a len cap] w fun e w' => WholeIs l e ∧ w = w' := by
  have H := Lib.hid h
  have Hn := Lib.hid h.length
  have hm := h.len_le
  unfold maxLen at hm
  clear h
  go_enter Try.func19, Try.ntmps19
  go_wp2
  go_loop [4, 5] (fun v i => ∃ k : Nat, k ≤ len ∧ i = .int .i64 k ∧ v = .int .u64 (wholeL (l.take k)) ∧ Hid (wholeL (l.take k) < 256 ^ 8)) (fun _ i => len - (intOf i).toNat)
  case atStart => exact ⟨0, Nat.zero_le _, rfl, rfl, by simp [Hid, wholeL]⟩
  case round =>
    obtain ⟨k, hk, rfl, rfl, hv⟩ := hrel
    by_cases hlt : k < len
    · obtain ⟨b, off, rfl, hbl, hc⟩ := H.out.cells (by omega)
      have hck := hc k hlt
      have hst := Lib.hid (wholeL_step l k (by rw [Hn.out]; exact hlt))
      have hx8 := UInt8.toNat_lt (l[k]?.getD 0)
      clear hc
      have happ := Lib.hid (wholeL_append (l.take k) (l.drop k))
      rw [List.take_append_drop] at happ
      generalize hx : (l[k]?.getD 0).toNat = x at *
      clear hx
      generalize wholeL (l.take k) = v at *
      by_cases hb : v ≤ 72057594037927935
      · have hb1 : decide ((72057594037927936 : Int) ≤ (v : Int)) = false := by simp; omega
        have HB := Lib.hid hb
        clear hb
        go_wp2
        go_round
        case rel =>
          have e := wrap8 v x HB.out hx8
          refine ⟨k + 1, by omega, by go_num, by rw [e, hst.out], ?_⟩
          have := hst.out
          have := HB.out
          unfold Hid
          omega
        case measure => simp [intOf]; omega
      · have hb' := Lib.hid (show 72057594037927936 ≤ v by omega)
        have hb1 : decide ((72057594037927936 : Int) ≤ (v : Int)) = true := by simp; omega
        clear hb
        go_wp2
        go_ret2
        refine ⟨WholeIs.big ?_, rfl⟩
        rw [big_iff, happ.out]
        have h1 : 256 ^ 1 ≤ 256 ^ (l.drop k).length := Nat.pow_le_pow_right (by decide) (by rw [List.length_drop, Hn.out]; omega)
        have h2 : 72057594037927936 * 256 ≤ v * 256 ^ (l.drop k).length := Nat.mul_le_mul hb'.out (by simpa using h1)
        omega
    · go_wp2
      go_ret2
      refine ⟨WholeIs.fits ?_ ?_, rfl⟩
      · rw [big_iff]
        have := hv.out
        rw [List.take_of_length_le (by rw [Hn.out]; omega)] at this
        omega
      · rw [List.take_of_length_le (by rw [Hn.out]; omega)]

end Go.Proofs.Ytidiapdddkknpaa
