/-
  MERGED: MonA MonB MonC
-/
import Derived.Test.YtebfoalcmnpghaaMonN
import Derived.Test.YtebfoalcmnpghaaInvA
import Derived.Laws.CopyOwn
import Derived.Deep.RegionHeld
namespace Go.Proofs.Ytebfoalcmnpghaa
open Go.RowKit

theorem limb_round {l x D : Int} (h : D ∣ l * x - 1) (hV : D * D ∣ 4294967296) : D * D ∣ l * (x * ((2 - l * x) % 4294967296) % 4294967296) - 1 := by
  have e1 : (2 - l * x) % 4294967296 = 2 - l * x + 4294967296 * (-((2 - l * x) / 4294967296)) := by omega
  rw [e1]
  have e2 : x * (2 - l * x + 4294967296 * (-((2 - l * x) / 4294967296))) % 4294967296 = x * (2 - l * x + 4294967296 * (-((2 - l * x) / 4294967296))) + 4294967296 * (-(x * (2 - l * x + 4294967296 * (-((2 - l * x) / 4294967296))) / 4294967296)) := by omega
  rw [e2]
  exact limb_step h hV

theorem limb_end {l : Nat} {x : Int} (h : (4294967296 : Int) ∣ (l : Int) * x - 1) : ∃ m : Nat, -x % 4294967296 = (m : Int) ∧ m < 4294967296 ∧ (m * l + 1) % 4294967296 = 0 := by
  have e0 : -x % 4294967296 = -x + 4294967296 * (-(-x / 4294967296)) := by omega
  have h1 : 0 ≤ -x % 4294967296 := by omega
  have h2 : -x % 4294967296 < 4294967296 := by omega
  rw [e0] at h1 h2 ⊢
  generalize -(-x / 4294967296) = c at *
  refine ⟨(-x + 4294967296 * c).toNat, by omega, by omega, ?_⟩
  obtain ⟨d, hd⟩ := h
  have e : (((-x + 4294967296 * c).toNat * l + 1 : Nat) : Int) = 4294967296 * (c * l - d) := by
    rw [Int.natCast_add, Int.natCast_mul, Int.toNat_of_nonneg h1, Int.add_mul, Int.mul_sub, Int.neg_mul]
    have k1 : 4294967296 * c * (l : Int) = 4294967296 * (c * l) := Int.mul_assoc _ _ _
    have k2 : x * (l : Int) = l * x := Int.mul_comm _ _
    rw [k1, k2]
    simp
    omega
  omega

set_option maxHeartbeats 1000000 in
theorem minusInverse_any (l : Nat) (w : World) (hl : l < 4294967296) (ho : l % 2 = 1) :
    Calls Try.prog 38 #[.int .u32 (l : Int)] w fun e w' => (∃ m : Nat, e = .returned (.int .u32 (m : Int)) ∧ m < 4294967296 ∧ (m * l + 1) % 4294967296 = 0) ∧ w = w' := by
  go_enter Try.func38, Try.ntmps38
  go_wp2
  go_loop [3, 4] (fun xv rv => ∃ (x : Int) (r : Nat), xv = .int .u32 x ∧ rv = .int .i64 (r : Int) ∧ (r = 1 ∨ r = 2 ∨ r = 4 ∨ r = 8 ∨ r = 16 ∨ r = 32) ∧ Hid (0 ≤ x ∧ x < 4294967296 ∧ (2 : Int) ^ r ∣ (l : Int) * x - 1)) (fun _ rv => 32 - (intOf rv).toNat)
  case atStart => exact ⟨1, 1, rfl, rfl, .inl rfl, by decide, by decide, by rw [Int.mul_one]; omega⟩
  case round =>
    obtain ⟨x, r, rfl, rfl, hr, hinv⟩ := hrel
    by_cases h32 : r = 32
    · subst h32
      have hd := Lib.hid (limb_end (l := l) (x := x) hinv.out.2.2)
      go_wp2
      go_ret
      obtain ⟨m, h1, h2, h3⟩ := hd.out
      exact ⟨⟨m, by rw [← h1]; rfl, h2, h3⟩, rfl⟩
    · have hst : Hid ((2 : Int) ^ (r * 2) ∣ (l : Int) * (x * ((2 - (l : Int) * x) % 4294967296) % 4294967296) - 1) := Lib.hid (by
        have h := limb_round (l := (l : Int)) (x := x) (D := 2 ^ r) hinv.out.2.2 (by rcases hr with rfl | rfl | rfl | rfl | rfl | rfl <;> first | omega | decide)
        rwa [← Int.pow_add, show r + r = r * 2 by omega] at h)
      have hr1 : 1 ≤ r := by omega
      have hlt : r < 32 := by omega
      have hr2 := Lib.hid (show r * 2 = 1 ∨ r * 2 = 2 ∨ r * 2 = 4 ∨ r * 2 = 8 ∨ r * 2 = 16 ∨ r * 2 = 32 by omega)
      clear hr h32
      go_wp2
      go_round
      case rel => exact ⟨_, r * 2, rfl, by go_num, hr2.out, by omega, by omega, hst.out⟩
      case measure => simp [intOf] <;> omega

theorem narrow_any (a : Option Addr) (n c : Nat) (l : List Nat) (w : World) (h : Reads .u32 w a n c l) (hL : Lim l) (ht : val32 l < topN) :
    Calls Try.prog 42 #[.slice a n c] w fun e w' => RetsQ .u32 41 w.heap.size w' (nat32 (val32 l)) e ∧ Below w.heap.size w w' := by
  have HT := Lib.hid (trim_ok (⟨a, n, c, l, rfl, h, hL, rfl⟩ : NatAt w (.slice a n c) (val32 l)) ht)
  clear h hL ht
  go_enter Try.func42, Try.ntmps42
  go_wp2_with fail
  refine HT.out.mono ?_
  rintro e w1 ⟨⟨v1, rfl, ho1⟩, hb1⟩
  have O1 := Lib.hid ho1
  have B1 := Lib.hid hb1
  clear ho1 hb1
  go_wp2
  go_ret
  exact ⟨⟨_, rfl, O1.out⟩, B1.out⟩

/-- 'copy' of all of a slice into the beginning of a row of one's own, as an equation for the walk. -/
theorem run_copy_q {P : Program} (q : IntKind) (E : TypeId) (B : Nat) (w : World) (dT sT ty elem : TypeId) (hu : P.underlying dT = some (.slice elem)) (hsz : (P.info? elem).map (·.size) = some 1)
    (g n : Nat) (sp : Option Addr) (sLen sCap : Nat) (L l : List Nat) (hO : OwnQ q E B w (.slice (some ⟨g, 0, none⟩) n n) L) (hr : Reads q w sp sLen sCap l) (hle : sLen ≤ n) :
    ∃ w', (Builtin.copy_ #[dT, sT] ty #[.slice (some ⟨g, 0, none⟩) n n, .slice sp sLen sCap]).run P w = .ok (goInt sLen) w' ∧ OwnQ q E B w' (.slice (some ⟨g, 0, none⟩) n n) (l ++ L.drop sLen) ∧ ∀ w0, Below B w0 w → Below B w0 w' := by
  have hl := hr.length
  rcases Nat.eq_zero_or_pos sLen with rfl | hp
  · obtain rfl : l = [] := List.eq_nil_of_length_eq_zero hl
    exact ⟨w, run_copy_none (P := P) w dT sT ty elem _ sp n n 0 sCap hu hsz (by simp), by simpa using hO, fun _ h => h⟩
  · have hn := hO.cap.1
    have hmax := hO.cap.2.2
    obtain ⟨-, h2⟩ := hO
    rcases h2 with ⟨h2, -⟩ | ⟨g', cap, cur, he, hBg, hg, hnc, hcm, hcs, hct⟩
    · cases h2
    · obtain ⟨rfl, e2, e3⟩ : g' = g ∧ L.length = n ∧ cap = n := by
        injection he with e1 e2 e3
        injection e1 with e1
        injection e1 with e1
        exact ⟨e1.symm, by omega, by omega⟩
      subst e3
      have hcur : cur.toList = L.map (num q) := by
        rw [← hct, List.take_of_length_le (by simp; omega)]
      obtain ⟨ad, rfl⟩ : ∃ ad, sp = some ad := by
        cases sp with
        | none =>
          have h0 := hr.nil rfl
          have h1 := hr.le
          omega
        | some ad => exact ⟨ad, rfl⟩
      have hrun := run_copy_row (P := P) w dT sT ty elem g' 0 cap cap ad sLen sCap cur E (l.map (num q)) hu hsz hg (by rw [List.length_map, hl]; exact (Nat.min_eq_left hle).symm) hr.news (by simp; omega) (nums_oneCell q l)
      rw [List.length_map, hl] at hrun
      refine ⟨_, hrun, ?_, fun w0 hb => below_setRow hb hBg _⟩
      have hlen : (l ++ L.drop sLen).length = cap := by simp; omega
      show World.ownsRow _ _ _ _ _ _ _
      rw [hlen]
      refine ⟨by rw [List.length_map, hlen, Nat.mul_one], .inr ⟨g', cap, _, rfl, hBg, setRow_heap w g' _ _ E _ hg, Nat.le_refl _, hmax, ?_, ?_⟩⟩
      · simp; omega
      · simp only [List.take_zero, List.nil_append, Nat.zero_add]
        rw [List.take_of_length_le (by simp; omega), hcur, List.map_append, List.map_drop]

set_option maxRecDepth 100000 in
set_option maxHeartbeats 1000000 in
theorem wide_any (a : Option Addr) (m c : Nat) (l : List Nat) (n : Nat) (w : World) (h : Reads .u32 w a m c l) (hn : m ≤ n) (hb : n ≤ 100000) :
    Calls Try.prog 39 #[.slice a m c, .int .i64 (n : Int)] w fun e w' => RetsQ .u32 41 w.heap.size w' (l ++ List.replicate (n - m) 0) e ∧ Below w.heap.size w w' := by
  obtain ⟨i0, hi, hz0, hz1, hz2⟩ := info_parts Try.info32
  have HR := Lib.hid h
  have HN := Lib.hid h.length
  clear h
  go_enter Try.func39, Try.ntmps39
  go_wp2_with (at_make; refine wpList_make_lc .u32 _ rfl _ _ 22 rfl w.heap.size 41 i0 Try.underlying22 hi hz0 hz1 _ _ _ _ n n rfl rfl (by omega) (by omega) (Nat.le_refl _) (by rw [hz2]; omega) (by unfold maxLen; omega) (by simp) ?_; intro w1 hown hgrow)
  have HO := Lib.hid hown
  have HB := Lib.hid ((Below.refl w.heap.size w).grown hgrow (Nat.le_refl _) (fun _ h => by cases h))
  have HR2 := Lib.hid (HR.out.below HB.out)
  clear hown hgrow
  obtain ⟨w2, hrun, hO2, hB2⟩ := run_copy_q (P := Try.prog) .u32 41 w.heap.size w1 22 23 3 41 Try.underlying22 (by kernel_rfl) _ _ _ _ _ _ _ HO.out HR2.out hn
  have HO2 := Lib.hid hO2
  have HB2 := Lib.hid (hB2 _ HB.out)
  clear hO2 hB2
  rw [hrun]
  go_wp2
  go_ret
  refine ⟨⟨_, rfl, ?_⟩, HB2.out⟩
  have := HO2.out
  rwa [List.drop_replicate] at this

end Go.Proofs.Ytebfoalcmnpghaa

namespace Go.Proofs.Ytebfoalcmnpghaa
open Go.RowKit

/-- A wheel's cells. -/
structure WhlC (w : World) (g : Nat) (a : Option Addr) (c k : Nat) (a1 : Option Addr) (c1 : Nat) (a2 : Option Addr) (c2 n M : Nat) : Prop where
  lt : g < w.heap.size
  m : w.cell? ⟨g, 0, none⟩ = some (.slice a n c)
  minus : w.cell? ⟨g, 1, none⟩ = some (.int .u32 (k : Int))
  one : w.cell? ⟨g, 2, none⟩ = some (.slice a1 n c1)
  square : w.cell? ⟨g, 3, none⟩ = some (.slice a2 n c2)
  rm : Reads .u32 w a n c (nat32 M)
  r1 : Reads .u32 w a1 n c1 (wideN n (radix n % M))
  r2 : Reads .u32 w a2 n c2 (wideN n (radix n * radix n % M))
  kl : k < 4294967296
  inv : (k * M + 1) % 4294967296 = 0
  odd : M % 2 = 1
  three : 3 ≤ M
  small : M < topM
def Whl (w : World) (p : Value) (n M : Nat) : Prop := ∃ g a c k a1 c1 a2 c2, p = .pointer (some ⟨g, 0, none⟩) ∧ WhlC w g a c k a1 c1 a2 c2 n M

theorem WhlC.below {w w' : World} {g c k c1 c2 n M : Nat} {a a1 a2 : Option Addr} (h : WhlC w g a c k a1 c1 a2 c2 n M) (hb : Below w.heap.size w w') : WhlC w' g a c k a1 c1 a2 c2 n M :=
  ⟨Nat.lt_of_lt_of_le h.lt hb.size, (hb.cell (p := ⟨g, 0, none⟩) h.lt).trans h.m, (hb.cell (p := ⟨g, 1, none⟩) h.lt).trans h.minus, (hb.cell (p := ⟨g, 2, none⟩) h.lt).trans h.one, (hb.cell (p := ⟨g, 3, none⟩) h.lt).trans h.square, h.rm.below hb, h.r1.below hb, h.r2.below hb, h.kl, h.inv, h.odd, h.three, h.small⟩
theorem Whl.below {w w' : World} {p : Value} {n M : Nat} (h : Whl w p n M) (hb : Below w.heap.size w w') : Whl w' p n M := by
  obtain ⟨g, a, c, k, a1, c1, a2, c2, rfl, h⟩ := h
  exact ⟨g, a, c, k, a1, c1, a2, c2, rfl, h.below hb⟩
theorem WhlC.len {w : World} {g c k c1 c2 n M : Nat} {a a1 a2 : Option Addr} (h : WhlC w g a c k a1 c1 a2 c2 n M) : (nat32 M).length = n ∧ 1 ≤ n ∧ n ≤ 128 := by
  have h1 := h.rm.length
  have h2 : (nat32 M).length ≤ 128 := (natB_length (b := 4294967296) (by decide) M 128).2 h.small
  refine ⟨h1, ?_, by omega⟩
  apply Nat.pos_of_ne_zero
  intro e
  have := (natB_nil (b := 4294967296) (by decide)).1 (List.eq_nil_of_length_eq_zero (h1.trans e))
  have := h.three
  omega
theorem WhlC.radix {w : World} {g c k c1 c2 n M : Nat} {a a1 a2 : Option Addr} (h : WhlC w g a c k a1 c1 a2 c2 n M) : M < radix n := by
  have h1 := h.len
  exact (natB_length (b := 4294967296) (by decide) M n).1 (Nat.le_of_eq h1.1)

/-- What is left so far, when the modulus is taken. -/
structure RedI (t m P : List Nat) (k b : Nat) : Prop where
  len : P.length = m.length
  lim : Lim P
  bor : b ≤ 1
  val : val32 (P.take k) + val32 (m.take k) = val32 (t.take k) + 4294967296 ^ k * b

theorem redI_start (t m : List Nat) : RedI t m (List.replicate m.length 0) 0 0 := ⟨by simp, fun x hx => by rw [List.eq_of_mem_replicate hx]; decide, by omega, by simp [val32, valB]⟩
theorem redI_step {t m P : List Nat} {k b : Nat} (h : RedI t m P k b) (ht : Lim t) (hm : Lim m) (hk : k < m.length) : RedI t m (P.set k (subD (t[k]?.getD 0) (m[k]?.getD 0) b)) (k + 1) (subB (t[k]?.getD 0) (m[k]?.getD 0) b) := by
  obtain ⟨h1, h2, h3, h4⟩ := h
  have hx := lim_get ht k
  have hy := lim_get hm k
  have e1 := valB_succ (b := 4294967296) t k
  have e2 := valB_succ (b := 4294967296) m k
  generalize t[k]?.getD 0 = x at *
  generalize m[k]?.getD 0 = y at *
  have hd : subD x y b + y + b = x + 4294967296 * subB x y b := by unfold subD subB; split <;> omega
  have hd2 : subD x y b < 4294967296 := by unfold subD; split <;> omega
  have hb2 : subB x y b ≤ 1 := by unfold subB; split <;> omega
  generalize subD x y b = d at *
  generalize subB x y b = b2 at *
  refine ⟨by simp [h1], mem_set h2 hd2, hb2, ?_⟩
  simp only [val32] at *
  rw [take_set_succ _ _ _ (by omega), valB_snoc, List.length_take, Nat.min_eq_left (by omega), e1, e2]
  have e : 4294967296 ^ (k + 1) * b2 = 4294967296 ^ k * (4294967296 * b2) := by rw [Nat.pow_succ, Nat.mul_assoc]
  have e3 : 4294967296 ^ k * (d + y + b) = 4294967296 ^ k * (x + 4294967296 * b2) := by rw [hd]
  rw [Nat.mul_add, Nat.mul_add, Nat.mul_add] at e3
  rw [e]
  omega

set_option maxRecDepth 100000 in
set_option maxHeartbeats 2000000 in
theorem reduced_any (p : Value) (n M N gt : Nat) (T : List Nat) (B : Nat) (w : World) (hW : Whl w p n M) (hT : OwnQ .u32 41 B w (.slice (some ⟨gt, 0, none⟩) N N) T) (hL : Lim T) (hv : val32 T < 2 * M) (hB : B ≤ w.heap.size) (hN : N = n + 1) :
    Calls Try.prog 66 #[p, .slice (some ⟨gt, 0, none⟩) N N] w fun e w' => RetsQ .u32 41 B w' (wideN n (val32 T % M)) e ∧ Below w.heap.size w w' := by
  obtain ⟨i0, hi, hz0, hz1, hz2⟩ := info_parts Try.info32
  obtain ⟨g, a, c, k, a1, c1, a2, c2, rfl, hW⟩ := hW
  obtain ⟨hln, hn1, hn2⟩ := hW.len
  have HW := Lib.hid hW
  have HT := Lib.hid hT
  have HL := Lib.hid hL
  have HV := Lib.hid hv
  have HLN := Lib.hid hln
  have HTN := Lib.hid hT.cap.1
  have hcm := hT.cap.2.2
  unfold maxLen at hcm
  have hm0 := hW.m
  have hLM : Hid (Lim (nat32 M)) := Lib.hid (natB_digit (by decide) M)
  have hVM : Hid (val32 (nat32 M) = M) := Lib.hid (natB_val (b := 4294967296) (by decide) M)
  have hfin := Lib.hid (fun (P : List Nat) (b : Nat) (h : RedI T (nat32 M) P n b) => mon_less (k := n) hln (hT.cap.1.symm.trans hN) hL hLM.out h.lim (by rw [h.len, hln]) (by rw [show val32 (nat32 M) = M from hVM.out]; exact hv) h.bor (by
    have := h.val
    rwa [List.take_of_length_le (by rw [h.len, hln]; exact Nat.le_refl _), List.take_of_length_le (by rw [hln]; exact Nat.le_refl _)] at this))
  have hcn : ¬ N = 0 := by omega
  have hnN : n < N := by omega
  have hN1 : N ≤ 129 := by omega
  clear hW hT hL hv hln hN
  go_enter Try.func66, Try.ntmps66
  go_wp2_with (at_make; refine wpList_make_lc .u32 _ rfl _ _ 22 rfl w.heap.size 41 i0 Try.underlying22 hi hz0 hz1 _ _ _ _ n n rfl rfl (by omega) (by omega) (Nat.le_refl _) (by rw [hz2]; omega) (by unfold maxLen; omega) (by simp) ?_; intro w1 hown hgrow)
  have HO := Lib.hid hown
  have HB := Lib.hid ((Below.refl w.heap.size w).grown hgrow (Nat.le_refl _) (fun _ h => by cases h))
  clear hown hgrow hm0
  go_wp2
  go_loopw [7, 17] (fun bv iv wr => ∃ (i b : Nat) (P : List Nat), iv = .int .i64 (i : Int) ∧ bv = .int .u32 (b : Int) ∧ i ≤ n ∧ Hid (RedI T (nat32 M) P i b) ∧ OwnQ .u32 41 w.heap.size wr (.slice (some ⟨w.heap.size, 0, none⟩) n n) P ∧ Hid (Below w.heap.size w wr)) (fun _ iv _ => n - (intOf iv).toNat)
  case atStart => exact ⟨0, 0, _, rfl, rfl, Nat.zero_le _, by have := redI_start T (nat32 M); rwa [HLN.out] at this, HO.out, HB.out⟩
  case round =>
    obtain ⟨i, b, P, rfl, rfl, hi2, hinv, hown, hbel⟩ := hrel
    have HWr := Lib.hid (HW.out.below hbel.out)
    have HTr := Lib.hid (HT.out.below (hbel.out))
    have hPl := Lib.hid (hinv.out.len.trans HLN.out)
    have c0 := HWr.out.m
    have hiN : i < N := by omega
    by_cases hlt : i < n
    · obtain ⟨bb, off, rfl, hbk0, -⟩ := HW.out.rm.cells (by omega)
      have HBB := Lib.hid hbk0
      obtain ⟨bb2, off2, he2, hbk, hc2⟩ := HWr.out.rm.cells (by omega)
      cases he2
      have hck := hc2 i hlt
      have ht := HTr.out.cellAt HTN.out i (by omega)
      have hst := Lib.hid (redI_step hinv.out HL.out hLM.out (by rw [HLN.out]; exact hlt))
      have hx := lim_get HL.out i
      have hy := lim_get hLM.out i
      have hfr := hown.frozenAt hPl.out.symm i
      have hcell := hown.cellAt hPl.out.symm i hlt
      have hb1 := hinv.out.bor
      have HO1 := Lib.hid hown
      clear hc2 hown hinv
      generalize T[i]?.getD 0 = x at *
      generalize (nat32 M)[i]?.getD 0 = y at *
      have hSB := Lib.hid (fun W0 => sub32_any x y b W0 hx hy hb1)
      have hf1 : Hid (gt ≠ w.heap.size) := Lib.hid (by have := (World.ownsRow.lt HT.out gt rfl).2; omega)
      have hf2 : Hid (g ≠ w.heap.size) := Lib.hid (by have := HW.out.lt; omega)
      have hf3 : Hid (bb ≠ w.heap.size) := Lib.hid (by have := HBB.out; omega)
      go_wp2
      go_region_with (go_at_call 82; refine (hSB.out _).mono ?_; rintro e w' ⟨rfl, rfl⟩)
      all_goals
        go_wp2
        go_roundw
        case rel =>
          have s1 := HO1.out.stored hPl.out.symm i (subD x y b) _ rfl
          exact ⟨i + 1, subB x y b, P.set i (subD x y b), by go_num, rfl, by omega, hst.out, s1.1, (s1.2 _ hbel.out).drew⟩
        case measure => simp [intOf] <;> omega
    · obtain rfl : i = n := by omega
      have ht := HTr.out.cellAt HTN.out i (by omega)
      have hfi := Lib.hid (hfin.out P b hinv.out)
      have hbo := hinv.out.bor
      have hPL := Lib.hid hinv.out.lim
      have hx := lim_get HL.out i
      generalize T[i]?.getD 0 = x at *
      by_cases hb : x < b
      · have hd : decide ((x : Int) < (b : Int)) = true := by simp; omega
        have hres := Lib.hid (show T.take i = wideN i (val32 T % M) by
          have h1 := hfi.out.1 hb
          rw [show val32 (nat32 M) = M from hVM.out] at h1
          rw [← h1]
          exact wideN_uniq (fun z hz => HL.out z (List.mem_of_mem_take hz)) (by rw [List.length_take]; have := HTN.out; omega))
        have hup := Lib.hid (HTr.out.upto i (Nat.le_of_lt hnN))
        clear hfi
        go_wp2
        go_ret
        exact ⟨⟨_, rfl, by rw [← hres.out]; exact hup.out⟩, hbel.out⟩
      · have hd : decide ((x : Int) < (b : Int)) = false := by simp; omega
        have hres := Lib.hid (show P = wideN i (val32 T % M) by
          have h1 := hfi.out.2 hb
          rw [show val32 (nat32 M) = M from hVM.out] at h1
          rw [← h1]
          exact wideN_uniq hPL.out hPl.out)
        have HO1 := Lib.hid hown
        clear hfi hown
        go_wp2
        go_ret
        exact ⟨⟨_, rfl, by rw [← hres.out]; exact HO1.out.mono hB⟩, hbel.out⟩

end Go.Proofs.Ytebfoalcmnpghaa

namespace Go.Proofs.Ytebfoalcmnpghaa
open Go.RowKit

theorem reads_spot {q : IntKind} {w : World} {b off len cap : Nat} {l : List Nat} (h : Reads q w (some ⟨b, off, none⟩) len cap l) (i : Nat) (hi : i < len) : w.cell? ⟨b, off + i, none⟩ = some (.int q ((l[i]?.getD 0 : Nat) : Int)) := by
  obtain ⟨b', off', e, -, hc⟩ := h.cells (by omega)
  cases e
  exact hc i hi
theorem reads_spot0 {q : IntKind} {w : World} {b off len cap : Nat} {l : List Nat} (h : Reads q w (some ⟨b, off, none⟩) len cap l) (hi : 0 < len) : w.cell? ⟨b, off, none⟩ = some (.int q ((l[0]?.getD 0 : Nat) : Int)) := reads_spot h 0 hi
theorem reads_some {q : IntKind} {w : World} {a : Option Addr} {len cap : Nat} {l : List Nat} (h : Reads q w a len cap l) (hi : 0 < len) : ∃ b off, a = some ⟨b, off, none⟩ := by
  obtain ⟨b', off', e, -, -⟩ := h.cells hi
  exact ⟨b', off', e⟩

/-- One step of the first sum, as the walk meets it. -/
structure Sum3 (x y t f p1 p2 F fd : Nat) : Prop where
  e1 : (x : Int) * (y : Int) = (p1 : Int)
  b1 : p1 < 18446744073709551616
  e2 : (p1 : Int) + (t : Int) = (p2 : Int)
  b2 : p2 < 18446744073709551616
  e3 : (F : Int) / 4294967296 = (fd : Int)
  b3 : fd < 4294967296
  e4 : (p2 : Int) + (fd : Int) = (f : Int)
  b4 : f < 18446744073709551616
theorem sum3 {x y t F : Nat} (hx : x < 4294967296) (hy : y < 4294967296) (ht : t < 4294967296) (hF : F < 18446744073709551616) : ∃ f p1 p2 fd, Sum3 x y t f p1 p2 F fd ∧ f = x * y + t + F / 4294967296 := by
  have h : x * y ≤ 4294967295 * 4294967295 := Nat.mul_le_mul (by omega) (by omega)
  exact ⟨x * y + t + F / 4294967296, x * y, x * y + t, F / 4294967296, ⟨by simp, by omega, by omega, by omega, by omega, by omega, by omega, by omega⟩, rfl⟩
/-- The start of a round. -/
structure Sum2 (x y t f p1 : Nat) : Prop where
  e1 : (x : Int) * (y : Int) = (p1 : Int)
  b1 : p1 < 18446744073709551616
  e2 : (p1 : Int) + (t : Int) = (f : Int)
  b2 : f < 18446744073709551616
theorem sum2 {x y t : Nat} (hx : x < 4294967296) (hy : y < 4294967296) (ht : t < 4294967296) : ∃ f p1, Sum2 x y t f p1 ∧ f = x * y + t := by
  have h : x * y ≤ 4294967295 * 4294967295 := Nat.mul_le_mul (by omega) (by omega)
  exact ⟨x * y + t, x * y, ⟨by simp, by omega, by omega, by omega⟩, rfl⟩
theorem low32 (f : Nat) : ∃ m : Nat, (f : Int) % 4294967296 = (m : Int) ∧ m < 4294967296 ∧ m = f % 4294967296 := ⟨f % 4294967296, by omega, by omega, rfl⟩
theorem prod32 (f k : Nat) : ∃ q : Nat, (f : Int) * (k : Int) % 4294967296 = (q : Int) ∧ q < 4294967296 ∧ q = f * k % 4294967296 := ⟨f * k % 4294967296, by rw [← Int.natCast_mul]; omega, by omega, rfl⟩

theorem quot_zero {f k M m0 q : Nat} (hk : (k * M + 1) % 4294967296 = 0) (hm : m0 = M % 4294967296) (hq : q = f % 4294967296 * k % 4294967296) : (q * m0 + f % 4294967296) % 4294967296 = 0 := by
  subst hq hm
  have e1 : (f % 4294967296 * k % 4294967296 * (M % 4294967296) + f % 4294967296) % 4294967296 = (f % 4294967296 * (k * M + 1)) % 4294967296 := by
    rw [Nat.mul_add, Nat.mul_one, ← Nat.mul_assoc]
    rw [Nat.add_mod, Nat.mod_mul_mod, Nat.mul_mod_mod, ← Nat.add_mod]
  rw [e1, Nat.mul_mod, hk, Nat.mul_zero, Nat.zero_mod]

set_option maxRecDepth 100000 in
set_option maxHeartbeats 4000000 in
theorem times_any (p : Value) (xa ya : Option Addr) (xc yc n M : Nat) (X Y : List Nat) (w : World) (hW : Whl w p n M) (hx : Reads .u32 w xa n xc X) (hy : Reads .u32 w ya n yc Y) (hLX : Lim X) (hLY : Lim Y) (hXM : val32 X < M) :
    Calls Try.prog 43 #[p, .slice xa n xc, .slice ya n yc] w fun e w' => RetsQ .u32 41 w.heap.size w' (wideN n (monN n M (val32 X * val32 Y))) e ∧ Below w.heap.size w w' := by
  obtain ⟨i0, hi, hz0, hz1, hz2⟩ := info_parts Try.info32
  have HWH := Lib.hid hW
  obtain ⟨g, a, c, kk, a1, c1, a2, c2, rfl, hW⟩ := hW
  obtain ⟨hln, hn1, hn2⟩ := hW.len
  obtain ⟨bx, ox, rfl⟩ := reads_some hx hn1
  obtain ⟨yb, yo, rfl⟩ := reads_some hy hn1
  obtain ⟨mb, mo, rfl⟩ := reads_some hW.rm hn1
  obtain ⟨m, hmm⟩ : ∃ m, m = nat32 M := ⟨_, rfl⟩
  obtain ⟨N, hN⟩ : ∃ N, N = n + 1 := ⟨_, rfl⟩
  obtain ⟨k, hk⟩ : ∃ k, n = k + 1 := ⟨n - 1, by omega⟩
  have hrm := hW.rm
  rw [← hmm] at hrm
  have HRM := Lib.hid hrm
  have HX := Lib.hid hx
  have HY := Lib.hid hy
  have HLX := Lib.hid hLX
  have HLY := Lib.hid hLY
  have HML : Hid (Lim m) := Lib.hid (by rw [hmm]; exact natB_digit (by decide) M)
  have HMN := Lib.hid (show m.length = n by rw [hmm]; exact hln)
  have HVM := Lib.hid (show val32 m = M by rw [hmm]; exact natB_val (by decide) M)
  have HM0 := Lib.hid (show m[0]?.getD 0 = M % 4294967296 by rw [hmm, natB_get (by decide)]; simp)
  have HXN := Lib.hid hx.length
  have HYN := Lib.hid hy.length
  have HXM := Lib.hid (show val32 X < val32 m by rw [HVM.out]; exact hXM)
  have HC := Lib.hid (fun (wr : World) (hb : Below w.heap.size w wr) => (⟨(hW.below hb).m, (hW.below hb).minus⟩ : wr.cell? ⟨g, 0, none⟩ = _ ∧ wr.cell? ⟨g, 1, none⟩ = _))
  have HINV := Lib.hid hW.inv
  have hkl := hW.kl
  have HOD := Lib.hid hW.odd
  have H3 := Lib.hid hW.three
  have HK := Lib.hid hk
  have HN := Lib.hid hN
  have hnk : ((n : Int) - 1) = (k : Int) := by omega
  have hkn : k < n := by omega
  have hnN : n < N := by omega
  have hkN : k < N := by omega
  have hN9 : N ≤ 129 := by omega
  have hnN1 : ((n : Int) + 1) = (N : Int) := by omega
  have hc0 := (HC.out w (Below.refl _ _)).1
  have hz : Hid (MonOut X m Y (List.replicate N 0) 0) := Lib.hid (by
    have := monOut_start (x := X) (m := m) (y := Y) (by have := HXM.out; omega)
    rwa [HMN.out, ← hN] at this)
  clear hW hx hy hLX hLY hXM hmm hN hk hrm hln
  go_enter Try.func43, Try.ntmps43
  go_wp2_with (at_make; refine wpList_make_lc .u32 _ rfl _ _ 22 rfl w.heap.size 41 i0 Try.underlying22 hi hz0 hz1 _ _ _ _ N N rfl rfl (by omega) (by omega) (Nat.le_refl _) (by rw [hz2]; omega) (by unfold maxLen; omega) (by simp) ?_; intro w1 hown hgrow)
  have HO := Lib.hid hown
  have HB := Lib.hid ((Below.refl w.heap.size w).grown hgrow (Nat.le_refl _) (fun _ h => by cases h))
  clear hown hgrow hc0
  go_wp2
  go_loopw [24] (fun iv wr => ∃ (i : Nat) (T : List Nat), iv = .int .i64 (i : Int) ∧ i ≤ n ∧ Hid (MonOut X m Y T i) ∧ OwnQ .u32 41 w.heap.size wr (.slice (some ⟨w.heap.size, 0, none⟩) N N) T ∧ Hid (Below w.heap.size w wr)) (fun iv _ => n - (intOf iv).toNat)
  case atStart => exact ⟨0, _, rfl, Nat.zero_le _, hz.out, HO.out, HB.out⟩
  case round =>
    obtain ⟨i, T, rfl, hi2, hinv, hown, hbel⟩ := hrel
    obtain ⟨wo, rfl⟩ : ∃ wo : World, wo = wr := ⟨_, rfl⟩
    have HTN : Hid (T.length = N) := Lib.hid (by rw [hinv.out.len, HMN.out]; exact HN.out.symm)
    by_cases hlt : i < n
    · have cx := reads_spot0 (HX.out.below hbel.out) (by omega)
      have cy := reads_spot (HY.out.below hbel.out) i hlt
      have cm := reads_spot0 (HRM.out.below hbel.out) (by omega)
      have ct := hown.cellAt HTN.out.symm 0 (by omega)
      obtain ⟨cg0, cg1⟩ := HC.out wo hbel.out
      have lx := lim_get HLX.out 0
      have ly := lim_get HLY.out i
      have lm := lim_get HML.out 0
      have lt := lim_get hinv.out.lim 0
      obtain ⟨y, hy⟩ : ∃ y, y = Y[i]?.getD 0 := ⟨_, rfl⟩
      have HYI := Lib.hid hy
      rw [← hy] at cy ly
      obtain ⟨f, p1, S1, hf⟩ := sum2 lx ly lt
      obtain ⟨fm, efm, lfm, hfm⟩ := low32 f
      obtain ⟨q, eq1, lq, hq⟩ := prod32 fm kk
      obtain ⟨s, p3, S2, hs⟩ := sum2 lq lm lfm
      have hst : Hid (MonIn X m T T y q 0 (f / 4294967296) (s / 4294967296)) := Lib.hid (by
        have h := monIn_start (x := X) (m := m) (t := T) (y := y) (q := q) HLX.out HML.out hinv.out.lim ly lq (by
          have := quot_zero (f := f) (k := kk) (q := q) HINV.out HM0.out (by rw [hq, hfm])
          rwa [hf] at this)
        rw [← hf, ← hfm, ← hs] at h
        exact h)
      have HLQ := Lib.hid lq
      have HO1 := Lib.hid hown
      obtain ⟨e1, b1, e2, b2⟩ := S1
      obtain ⟨e3, b3, e4, b4⟩ := S2
      clear hy hf hfm hq hs hown
      generalize X[0]?.getD 0 = x0 at *
      generalize T[0]?.getD 0 = t0 at *
      generalize m[0]?.getD 0 = m0 at *
      go_wp2
      go_big_quiet (fail)
      simp only [Exit.then]
      go_wp2
      go_loopw [10, 11, 65] (fun fv sv jv wr => ∃ (j f s : Nat) (T' : List Nat), jv = .int .i64 (j : Int) ∧ fv = .int .u64 (f : Int) ∧ sv = .int .u64 (s : Int) ∧ j ≤ k ∧ f < 18446744073709551616 ∧ s < 18446744073709551616 ∧ Hid (MonIn X m T T' y q j (f / 4294967296) (s / 4294967296)) ∧ OwnQ .u32 41 w.heap.size wr (.slice (some ⟨w.heap.size, 0, none⟩) N N) T' ∧ Hid (Below w.heap.size w wr)) (fun _ _ jv _ => k - (intOf jv).toNat)
      case atStart => exact ⟨0, f, s, T, rfl, rfl, rfl, Nat.zero_le _, b2, b4, hst.out, HO1.out.drewN _, below_drewN hbel.out _⟩
      case round =>
        obtain ⟨j, f', s', T', rfl, rfl, rfl, hj, hf', hs', hin, hown2, hbel2⟩ := hrel
        obtain ⟨wi, rfl⟩ : ∃ wi : World, wi = wr := ⟨_, rfl⟩
        have HTN2 : Hid (T'.length = N) := Lib.hid (by rw [hin.out.len]; exact HTN.out)
        by_cases hjk : j < k
        · obtain ⟨j1, hj1⟩ : ∃ j1, j1 = j + 1 := ⟨_, rfl⟩
          have hji : ((j : Int) + 1) = (j1 : Int) := by omega
          have hjn : j1 < n := by omega
          have hjN : j1 < N := by omega
          have hj0 : j < N := by omega
          have HJ := Lib.hid hj1
          have cx2 := reads_spot (HX.out.below hbel2.out) j1 hjn
          have cy2 := reads_spot (HY.out.below hbel2.out) i hlt
          have cm2 := reads_spot (HRM.out.below hbel2.out) j1 hjn
          have ct2 := hown2.cellAt HTN2.out.symm j1 hjN
          have ct3 := hown2.cellAt HTN2.out.symm j hj0
          have fr3 := hown2.frozenAt HTN2.out.symm j
          obtain ⟨cg2, -⟩ := HC.out wi hbel2.out
          have lx2 := lim_get HLX.out j1
          have lm2 := lim_get HML.out j1
          have lt2 := lim_get hin.out.lim j1
          rw [← HYI.out] at cy2
          have hstep := monIn_step hin.out HLX.out HML.out hinv.out.lim ly HLQ.out (by rw [HTN.out, ← hj1]; exact hjN)
          rw [← hj1] at hstep
          obtain ⟨f2, p4, p5, fd, U1, hf2⟩ := sum3 lx2 ly lt2 hf'
          obtain ⟨fm2, efm2, lfm2, hfm2⟩ := low32 f2
          obtain ⟨s2, p6, p7, sd, U2, hs2⟩ := sum3 HLQ.out lm2 lfm2 hs'
          obtain ⟨sm2, esm2, lsm2, hsm2⟩ := low32 s2
          have hst2 : Hid (MonIn X m T (T'.set j sm2) y q j1 (f2 / 4294967296) (s2 / 4294967296)) := Lib.hid (by
            have h := hstep.1
            rw [← hf2, ← hfm2, ← hs2, ← hsm2] at h
            exact h)
          have hO2 := Lib.hid hown2
          obtain ⟨u1, v1, u2, v2, u3, v3, u4, v4⟩ := U1
          obtain ⟨u5, v5, u6, v6, u7, v7, u8, v8⟩ := U2
          clear hf2 hfm2 hs2 hsm2 hstep hown2 hin hj1 cx cy cm ct cg0 cg1
          generalize X[j1]?.getD 0 = x1 at *
          generalize T'[j1]?.getD 0 = t1 at *
          generalize T'[j]?.getD 0 = t2 at *
          generalize m[j1]?.getD 0 = m1 at *
          go_wp2
          go_big_quiet (fail)
          simp only [Exit.then]
          go_wp2
          go_roundw
          case rel =>
            have s1 := (hO2.out.drewN nq).stored HTN2.out.symm j sm2 _ rfl
            exact ⟨j1, f2, s2, T'.set j sm2, rfl, rfl, rfl, by omega, v4, v8, hst2.out, s1.1, s1.2 _ (below_drewN hbel2.out _)⟩
          case measure =>
            have := HJ.out
            simp [intOf] <;> omega
        · obtain rfl : j = k := by omega
          have lt2 := lim_get hin.out.lim n
          have ct2 := hown2.cellAt HTN2.out.symm n hnN
          have ct3 := hown2.cellAt HTN2.out.symm j hkN
          have fr3 := hown2.frozenAt HTN2.out.symm j
          have hmo := monOut_step hinv.out (HMN.out.trans HK.out) (HXN.out.trans HK.out) (y := Y) (by rw [← HYI.out]; exact hin.out) HLY.out HLQ.out HXM.out
          rw [← HK.out] at hmo
          dsimp only at hmo
          have hf9 : f' / 4294967296 < 4294967296 := by omega
          have hs9 : s' / 4294967296 < 4294967296 := by omega
          have u1 : (f' : Int) / 4294967296 = ((f' / 4294967296 : Nat) : Int) := by omega
          have u2 : (s' : Int) / 4294967296 = ((s' / 4294967296 : Nat) : Int) := by omega
          have hO2 := Lib.hid hown2
          clear hown2 hin cx cy cm ct cg0 cg1
          generalize T'[n]?.getD 0 = tn at *
          generalize T'[j]?.getD 0 = tj at *
          generalize f' / 4294967296 = fd at *
          generalize s' / 4294967296 = sd at *
          obtain ⟨b1', u3, v3⟩ : ∃ z : Nat, (tn : Int) + (fd : Int) = (z : Int) ∧ z = tn + fd := ⟨_, by omega, rfl⟩
          obtain ⟨top, u4, v4⟩ : ∃ z : Nat, (b1' : Int) + (sd : Int) = (z : Int) ∧ z = b1' + sd := ⟨_, by omega, rfl⟩
          obtain ⟨tl, u5, v5, v6⟩ := low32 top
          obtain ⟨th, u6, v7⟩ : ∃ z : Nat, (top : Int) / 4294967296 = (z : Int) ∧ z = top / 4294967296 := ⟨_, by omega, rfl⟩
          have w1' : b1' < 18446744073709551616 := by omega
          have w2' : top < 18446744073709551616 := by omega
          have w3' : th < 4294967296 := by omega
          have hmo2 : Hid (MonOut X m Y ((T'.set j tl).set n th) (i + 1)) := Lib.hid (by
            rw [show tn + fd + sd = top by omega, ← v6, ← v7] at hmo
            exact hmo)
          have s1 := hO2.out.stored HTN2.out.symm j tl _ rfl
          have hl3 : n < N := hnN
          have HT3 := Lib.hid (show (T'.set j tl).length = N by simp [HTN2.out])
          have c4 := s1.1.cellAt HT3.out.symm n hnN
          have fr4 := s1.1.frozenAt HT3.out.symm n
          have s2 := s1.1.stored HT3.out.symm n th _ rfl
          have SS1 := Lib.hid s2.1
          have SS2 := Lib.hid (s2.2 w (s1.2 _ hbel2.out))
          clear s1 s2 hmo v3 v4 v6 v7 hl3
          generalize (T'.set j tl)[n]?.getD 0 = t9 at c4
          go_wp2
          go_roundw
          case rel => exact ⟨i + 1, (T'.set j tl).set n th, by go_num, by omega, hmo2.out, SS1.out, SS2.out⟩
          case measure => simp [intOf] <;> omega
    · obtain rfl : i = n := by omega
      have hbs := hbel.out.size
      have HR := Lib.hid (reduced_any _ i M N w.heap.size T w.heap.size wo (HWH.out.below hbel.out) hown hinv.out.lim (by rw [← HVM.out]; exact hinv.out.less) hbs HN.out)
      have hval := Lib.hid (mon_end hinv.out HYN.out HVM.out rfl rfl (by have := H3.out; omega) HOD.out)
      clear hown
      go_wp2_with fail
      refine HR.out.mono ?_
      rintro e w4 ⟨⟨v, rfl, ho⟩, hb⟩
      rw [hval.out] at ho
      have O4 := Lib.hid ho
      have B4 := Lib.hid (hbel.out.trans (hb.mono hbs))
      clear ho hb
      go_wp2
      go_ret
      exact ⟨⟨_, rfl, O4.out⟩, B4.out⟩

end Go.Proofs.Ytebfoalcmnpghaa
