/-
  SHA-2, the reference: Fill. (Written by wip/gen_sh7.py.)
-/
import Derived.Test.YtpfdehjllnhllaaSi6
namespace Go.Proofs.Ytpfdehjllnhllaa
open Go.RowKit Go.Shelf

/-- A number's last bytes, the highest one first. -/
def lbN (N : Nat) : Nat → List Nat
  | 0 => []
  | i + 1 => N / 256 ^ i % 256 :: lbN N i
theorem lbN_len (N : Nat) : ∀ i, (lbN N i).length = i
  | 0 => rfl
  | i + 1 => by rw [lbN, List.length_cons, lbN_len N i]
def lenV : Value → Nat
  | .slice _ m _ => m
  | _ => 0
theorem own_sl {q : IntKind} {E B : Nat} {w : World} {v : Value} {l : List Nat} (h : OwnQ q E B w v l) : ∃ a n cap, v = .slice a n cap ∧ n = l.length ∧ OwnQ q E B w (.slice a n cap) l := by
  obtain ⟨a, c, rfl, -, -⟩ := h.form
  exact ⟨a, _, c, rfl, rfl, h⟩
/-- A message, filled up. -/
def fillN (bl : List Nat) : List Nat := bl ++ [128] ++ List.replicate ((128 - (bl.length + 1 + 16) % 128) % 128) 0 ++ lbN (8 * bl.length) 16
theorem fillN_len (bl : List Nat) : (fillN bl).length = bl.length + 1 + (128 - (bl.length + 1 + 16) % 128) % 128 + 16 := by
  unfold fillN
  rw [List.length_append, List.length_append, List.length_append, List.length_replicate, lbN_len]
  rfl
theorem fillN_ne (bl : List Nat) : fillN bl ≠ [] := fun e => by
  have := fillN_len bl
  rw [e, List.length_nil] at this
  omega
theorem fillN_blocks (bl : List Nat) : ∃ q, (fillN bl).length = 128 * q ∧ 0 < q := ⟨(fillN bl).length / 128, by rw [fillN_len]; omega, by rw [fillN_len]; omega⟩
theorem lbN_lt (N : Nat) : ∀ i, ∀ x ∈ lbN N i, x < 256
  | 0 => fun x hx => by cases hx
  | i + 1 => fun x hx => by
    rcases List.mem_cons.1 hx with h | h
    · rw [h]
      exact Nat.mod_lt _ (by decide)
    · exact lbN_lt N i x h
theorem fillN_lt {bl : List Nat} (h : ∀ x ∈ bl, x < 256) : ∀ x ∈ fillN bl, x < 256 := fun x hx => by
  unfold fillN at hx
  simp only [List.mem_append, List.mem_singleton] at hx
  rcases hx with ((hx | hx) | hx) | hx
  · exact h x hx
  · omega
  · have := List.eq_of_mem_replicate hx
    omega
  · exact lbN_lt _ _ x hx
set_option maxRecDepth 1000000 in
set_option maxHeartbeats 2000000 in
theorem fill_any (a : Option Addr) (n c : Nat) (bl : List Nat) (w : World) (hr : Reads .u8 w a n c bl) (hn : n ≤ 10000) :
    Calls Try.prog 20 #[.slice a n c, .int .i64 128, .int .i64 16] w fun e w' => (∃ v, e = .returned v ∧ OwnQ .u8 5 w.heap.size w' v (fillN bl)) ∧ Below w.heap.size w w' := by
  obtain ⟨i0, hi, hz0, hz1, hz2'⟩ := info_parts infoB
  have HR := Lib.hid hr
  have HLN := Lib.hid hr.length
  obtain ⟨k, hk⟩ : ∃ k, k = (128 - (n + 1 + 16) % 128) % 128 := ⟨_, rfl⟩
  obtain ⟨N, hN⟩ : ∃ N, N = 8 * n := ⟨_, rfl⟩
  have hNi : (8 : Int) * (n : Int) = (N : Int) := by omega
  have hNb : N ≤ 80000 := by omega
  have hkb : k < 128 := by omega
  have HK := Lib.hid hk
  have HN := Lib.hid hN
  clear hr hk hN
  go_enter Try.func20, Try.ntmps20
  go_wp2_with (at_builtin; first
    | (refine wpList_append_q .u8 _ rfl _ _ 23 rfl w.heap.size 5 1 i0 Try.underlying23 hi hz0 hz1 hz2' (by decide) _ [] rfl (OwnQ.nil _ _ _ _) a n c bl rfl HR.out (by simp; omega) (Nat.le_refl _) ?_; intro v1 w1 hown1 hgrow1; rw [List.nil_append] at hown1; have HO1 := Lib.hid hown1; have HB1 := Lib.hid (hgrow1 _ (Below.refl _ _)); clear hown1 hgrow1)
    | (refine wpList_append_q .u8 _ rfl _ _ 23 rfl w.heap.size 5 1 i0 Try.underlying23 hi hz0 hz1 hz2' (by decide) _ bl rfl (HO1.out.alloc _) _ _ _ [128] rfl (Reads.one .u8 _ _ _ _ rfl) (by rw [HLN.out]; omega) (by have := HB1.out.size; simp; omega) ?_; intro v2 w2 hown2 hgrow2; have HO2 := Lib.hid hown2; have HB2 := Lib.hid (hgrow2 _ (HB1.out.alloc HB1.out.size _)); clear hown2 hgrow2))
  obtain ⟨a3, n3, c3, rfl, hn3, ho3⟩ := own_sl HO2.out
  rw [List.length_append, HLN.out] at hn3
  have HO3 := Lib.hid ho3
  have HN3 := Lib.hid hn3
  have hn3b : n3 ≤ 10001 := by rw [hn3]; simp; omega
  clear HO2 ho3 hn3
  go_loopw [7] (fun sv wq => ∃ (j m c' : Nat) (a' : Option Addr), sv = .slice a' m c' ∧ m ≤ 11000 ∧ j ≤ k ∧ Hid (m = n + 1 + j ∧ OwnQ .u8 5 w.heap.size wq (.slice a' m c') (bl ++ [128] ++ List.replicate j 0) ∧ Below w.heap.size w wq)) (fun sv _ => n + 1 + k - lenV sv)
  case atStart => exact ⟨0, n3, c3, a3, rfl, by omega, Nat.zero_le _, HN3.out, by rw [List.replicate_zero, List.append_nil]; exact HO3.out, HB2.out⟩
  case round =>
    obtain ⟨j, m, c', a', rfl, hm, hj, hI⟩ := hrel
    obtain ⟨r, hr⟩ : ∃ r, r = (m + 16) % 128 := ⟨_, rfl⟩
    have hri : Int.tmod ((m : Int) + 16) 128 = (r : Int) := by
      rw [Int.tmod_eq_emod_of_nonneg (by omega)]
      omega
    by_cases hlt : j < k
    · have hrn : ((r : Int) != 0) = true := by
        have h1 := hI.out.1
        have h2 := HK.out
        simp
        omega
      have hm2 : m ≤ 10001 + 128 := by have h1 := hI.out.1; omega
      clear hr
      go_wp2_with (at_builtin; refine wpList_append_q .u8 _ rfl _ _ 23 rfl w.heap.size 5 1 i0 Try.underlying23 hi hz0 hz1 hz2' (by decide) _ (bl ++ [128] ++ List.replicate j 0) rfl (hI.out.2.1.alloc _) _ _ _ [0] rfl (Reads.one .u8 _ _ _ _ rfl) (by rw [List.length_append, List.length_append, HLN.out, List.length_replicate]; simp; omega) (by have := hI.out.2.2.size; simp; omega) ?_; intro v4 w4 hown4 hgrow4; obtain ⟨a5, n5, c5, rfl, hn5, ho5⟩ := own_sl hown4; have HO5 := Lib.hid ho5; have HN5 := Lib.hid hn5; have HB5 := Lib.hid (hgrow4 _ (hI.out.2.2.alloc hI.out.2.2.size _)); clear hown4 hgrow4 hn5 ho5)
      have hn6 : n5 = n + 1 + (j + 1) := by rw [HN5.out, List.length_append, List.length_append, List.length_append, HLN.out, List.length_replicate]; simp; omega
      go_roundw
      case rel => exact ⟨j + 1, n5, c5, a5, rfl, by omega, by omega, hn6, by
        have h := HO5.out
        rw [List.append_assoc, ← List.replicate_succ'] at h
        exact h, HB5.out⟩
      case measure =>
        have h1 := hI.out.1
        simp [lenV]
        omega
    · obtain rfl : j = k := by omega
      have hrn : ((r : Int) != 0) = false := by
        have h1 := hI.out.1
        have h2 := HK.out
        simp
        omega
      have HOF := Lib.hid hI.out.2.1
      have HBF := Lib.hid hI.out.2.2
      clear hI hr
      have hnb : (n : Int) < 18446744073709551616 := by omega
      go_wp2_with fail
      clear hNi hri hrn hnb hj hlt
      go_loopw [8, 9, 10] (fun xv lv iv wq => ∃ (i x c9 : Nat) (a9 : Option Addr), xv = .int .u64 (x : Int) ∧ lv = .slice a9 i c9 ∧ iv = .int .i64 (i : Int) ∧ i ≤ 16 ∧ x ≤ 80000 ∧ Hid (x = N / 256 ^ i ∧ OwnQ .u8 5 w.heap.size wq (.slice a9 i c9) (lbN N i) ∧ OwnQ .u8 5 w.heap.size wq (.slice a' m c') (bl ++ [128] ++ List.replicate j 0) ∧ Below w.heap.size w wq)) (fun _ _ iv _ => 16 - (intOf iv).toNat)
      case atStart => exact ⟨0, N, 0, none, rfl, rfl, rfl, by decide, hNb, by simp, OwnQ.nil _ _ _ _, HOF.out, HBF.out⟩
      case round =>
        obtain ⟨i, x, c9, a9, rfl, rfl, rfl, hi9, hx9, hI⟩ := hrel
        by_cases hlt2 : i < 16
        · obtain ⟨y, hy⟩ : ∃ y, y = x % 256 := ⟨_, rfl⟩
          obtain ⟨z, hz⟩ : ∃ z, z = x / 256 := ⟨_, rfl⟩
          have hyi : (x : Int) % 256 = (y : Int) := by omega
          have hzi : (x : Int) / 256 = (z : Int) := by omega
          have hyw : IntKind.u8.wrap (y : Int) = (y : Int) := by simp [IntKind.wrap, IntKind.bits, IntKind.signed]; omega
          have hy2 : y < 256 := by omega
          have hz2 : z ≤ 80000 := by omega
          have HY := Lib.hid (show lbN N (i + 1) = [y] ++ lbN N i by rw [lbN, ← hI.out.1, ← hy]; rfl)
          have HZ := Lib.hid (show z = N / 256 ^ (i + 1) by rw [hz, hI.out.1, Nat.pow_succ, Nat.div_div_eq_div_mul])
          clear hy hz
          go_wp2_with (at_builtin; refine wpList_append_q .u8 _ rfl _ _ 23 rfl wr.heap.size 5 1 i0 Try.underlying23 hi hz0 hz1 hz2' (by decide) _ [y] rfl (World.ownsRow_lit wr #[.int .u8 (y : Int)] 1 (Nat.le_refl _) (by unfold maxLen; omega) rfl) a9 i c9 (lbN N i) rfl (hI.out.2.1.reads.below ((Below.refl _ _).alloc (Nat.le_refl _) _)) (by simp; omega) (by simp) ?_; intro v4 w4 hown4 hgrow4; have HB4 := Lib.hid (hgrow4 wr ((Below.refl _ _).alloc (Nat.le_refl _) _)); obtain ⟨a5, n5, c5, rfl, hn5, ho5⟩ := own_sl hown4; have HO5 := Lib.hid (ho5.mono hI.out.2.2.2.size); have hn6 : n5 = i + 1 := (by rw [hn5]; simp [lbN_len]); clear hown4 hgrow4 hn5 ho5)
          subst hn6
          go_roundw
          case rel => exact ⟨i + 1, z, c5, a5, rfl, rfl, by go_num, by omega, hz2, HZ.out, by rw [HY.out]; exact HO5.out, hI.out.2.2.1.below HB4.out, hI.out.2.2.2.trans (HB4.out.mono hI.out.2.2.2.size)⟩
          case measure => simp [intOf] <;> omega
        · have hiL : i = 16 := by omega
          have HF := Lib.hid (show bl ++ [128] ++ List.replicate j 0 ++ lbN N i = fillN bl by
            unfold fillN
            rw [hiL, HLN.out, ← HK.out, ← HN.out])
          have tL : decide ((i : Int) < 16) = false := by simp; omega
          have hmb : (bl ++ [128] ++ List.replicate j 0).length + i ≤ 20000 := by rw [List.length_append, List.length_append, HLN.out, List.length_replicate]; simp; omega
          clear hiL hlt2 hi9
          go_wp2_with (at_builtin; refine wpList_append_q .u8 _ rfl _ _ 23 rfl w.heap.size 5 1 i0 Try.underlying23 hi hz0 hz1 hz2' (by decide) _ (bl ++ [128] ++ List.replicate j 0) rfl hI.out.2.2.1 a9 i c9 (lbN N i) rfl hI.out.2.1.reads (by omega) hI.out.2.2.2.size ?_; intro v6 w6 hown6 hgrow6; have HO6 := Lib.hid hown6; have HB6 := Lib.hid (hgrow6 _ hI.out.2.2.2); clear hown6 hgrow6)
          go_ret
          exact ⟨⟨_, rfl, by rw [← HF.out]; exact HO6.out⟩, HB6.out⟩

end Go.Proofs.Ytpfdehjllnhllaa
