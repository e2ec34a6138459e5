/-
  Texts of ours, one behind the other: InvA MonAC RatB MonDF MonGI RfGs RfK MonQR Oc1 Oc2 Oc3 Rsa4 Rsa5 Oc4 RsaA Luc RsaP RsaK Mk1 ShaM ShaA ShaB
-/
import Derived.Test.YtpefjkndfifceaaDoorPk1
import Derived.Test.YtpefjkndfifceaaDoorPk2
import Derived.Test.YtpefjkndfifceaaDoorPk3
import Derived.Laws.CopyOwn
import Derived.Deep.RegionHeld
import Derived.Deep.CutRange
import Derived.Laws.EntriesVeiled
import Derived.Test.YtpefjkndfifceaaDoorRows
import Derived.Deep.QuietTactic
import Derived.BigQuiet
import Derived.OrdersHeld
import Derived.Laws.ResultCell
import Derived.OpenShut
import Derived.Below
import Derived.OwnWalk
import Derived.Test.YtpefjkndfifceaaDoorChecked
import Derived.Laws.BitsAllLaws
import Derived.Laws.Rows
import Derived.Laws.Tables
set_option linter.unusedVariables false
set_option linter.unusedSimpArgs false

namespace Go.Proofs.YtpefjkndfifceaaDoor
open Go.RowKit

theorem natAt_uniq {w : World} {v : Value} {n m : Nat} (h : NatAt w v n) (k : NatAt w v m) : n = m := by
  obtain ⟨a, len, cap, l, rfl, hr, hl, rfl⟩ := h
  obtain ⟨a', len', cap', l', he, hr', hl', rfl⟩ := k
  cases he
  have e : l = l' := by
    apply List.ext_getElem
    · rw [hr.length, hr'.length]
    · intro i h1 h2
      have hi : i < len := by rw [← hr.length]; exact h1
      obtain ⟨b, off, ha, _, hc⟩ := hr.cells (by omega)
      obtain ⟨b', off', ha', _, hc'⟩ := hr'.cells (by omega)
      rw [ha] at ha'
      cases ha'
      have e := (hc i hi).symm.trans (hc' i hi)
      rw [List.getElem?_eq_getElem h1, List.getElem?_eq_getElem h2] at e
      simp at e
      omega
  rw [e]
theorem eps_at {w : World} {v : Value} {n : Nat} (h : NatAt w v n) : @Classical.epsilon Nat ⟨0⟩ (fun m => NatAt w v m) = n := natAt_uniq (@Classical.epsilon_spec_aux Nat ⟨0⟩ _ ⟨n, h⟩) h

/-- A slice that is not longer than memory is. -/
def Small (v : Value) : Prop := ∀ a len cap, v = .slice a len cap → len ≤ 288230376151711743
theorem small_own {E B : Nat} {w : World} {v : Value} {n : Nat} (h : OwnQ .u32 E B w v (nat32 n)) (hn : n < topN) : Small v := fun a len cap e => by
  subst e
  have := (own_short (k := 256) h).2 hn
  omega

def invR (x m : Nat) : List Nat × Int := if m < topM ∧ x < topN then (if 2 ≤ m ∧ Nat.gcd m x = 1 then (nat32 (invN x m), 0) else ([], 61)) else ([], 20)
theorem invR_no {x m : Nat} (h : ¬ (m < topM ∧ x < topN)) : invR x m = ([], 20) := if_neg h
theorem invR_none {x m : Nat} (h : m < topM) (k : x < topN) (hn : ¬ (2 ≤ m ∧ Nat.gcd m x = 1)) : invR x m = ([], 61) := by unfold invR; rw [if_pos ⟨h, k⟩, if_neg hn]
theorem invR_yes {x m : Nat} (h : m < topM) (k : x < topN) (h2 : 2 ≤ m) (hg : Nat.gcd m x = 1) : invR x m = (nat32 (invN x m), 0) := by unfold invR; rw [if_pos ⟨h, k⟩, if_pos ⟨h2, hg⟩]

theorem bitsN_pos {n : Nat} : 0 < bitsN n ↔ 0 < n := by
  have := bitsN_le n 0
  omega

theorem of_own (n : Int) (k : Nat) (hk : n = k) (w : World) (hn : k < 18446744073709551616) : Calls Tryd.prog 27 #[.int .u64 n] w fun e w' => (∃ v, e = .returned v ∧ OwnQ .u32 64 w.heap.size w' v (nat32 k)) ∧ Below w.heap.size w w' := of_any n k hk w hn

/-- Between two rounds of Inverse. -/
def InvW (n₀ : Nat) (w5 : World) (M X : Nat) (ev rv fv tv pv : Value) (wr : World) : Prop :=
  ∃ (E R F T : Nat) (s : Int), InvI M X E R F T s ∧ E < topN ∧ R < topN ∧ Small rv ∧ NatAt wr ev E ∧ NatAt wr rv R ∧ OwnQ .u32 64 n₀ wr fv (nat32 F) ∧ OwnQ .u32 64 n₀ wr tv (nat32 T) ∧ pv = .bool (decide (s = 1)) ∧ (s = 1 ∨ s = -1) ∧ Below w5.heap.size w5 wr

end Go.Proofs.YtpefjkndfifceaaDoor

namespace Go.Proofs.YtpefjkndfifceaaDoor
open Go.RowKit

theorem limb_round {l x D : Int} (h : D ∣ l * x - 1) (hV : D * D ∣ 4294967296) : D * D ∣ l * (x * ((2 - l * x) % 4294967296) % 4294967296) - 1 := by
  have e1 : (2 - l * x) % 4294967296 = 2 - l * x + 4294967296 * (-((2 - l * x) / 4294967296)) := by omega
  rw [e1]
  have e2 : x * (2 - l * x + 4294967296 * (-((2 - l * x) / 4294967296))) % 4294967296 = x * (2 - l * x + 4294967296 * (-((2 - l * x) / 4294967296))) + 4294967296 * (-(x * (2 - l * x + 4294967296 * (-((2 - l * x) / 4294967296))) / 4294967296)) := by omega
  rw [e2]
  exact limb_step h hV

theorem limb_end {l : Nat} {x : Int} (h : (4294967296 : Int) ∣ (l : Int) * x - 1) : ∃ m : Nat, -x % 4294967296 = (m : Int) ∧ m < 4294967296 ∧ (m * l + 1) % 4294967296 = 0 := by
  have e0 : -x % 4294967296 = -x + 4294967296 * (-(-x / 4294967296)) := by omega
  have h1 : 0 ≤ -x % 4294967296 := by omega
  have h2 : -x % 4294967296 < 4294967296 := by omega
  rw [e0] at h1 h2 ⊢
  generalize -(-x / 4294967296) = c at *
  refine ⟨(-x + 4294967296 * c).toNat, by omega, by omega, ?_⟩
  obtain ⟨d, hd⟩ := h
  have e : (((-x + 4294967296 * c).toNat * l + 1 : Nat) : Int) = 4294967296 * (c * l - d) := by
    rw [Int.natCast_add, Int.natCast_mul, Int.toNat_of_nonneg h1, Int.add_mul, Int.mul_sub, Int.neg_mul]
    have k1 : 4294967296 * c * (l : Int) = 4294967296 * (c * l) := Int.mul_assoc _ _ _
    have k2 : x * (l : Int) = l * x := Int.mul_comm _ _
    rw [k1, k2]
    simp
    omega
  omega

/-- 'copy' of all of a slice into the beginning of a row of one's own, as an equation for the walk. -/
theorem run_copy_q {P : Program} (q : IntKind) (E : TypeId) (B : Nat) (w : World) (dT sT ty elem : TypeId) (hu : P.underlying dT = some (.slice elem)) (hsz : (P.info? elem).map (·.size) = some 1)
    (g n : Nat) (sp : Option Addr) (sLen sCap : Nat) (L l : List Nat) (hO : OwnQ q E B w (.slice (some ⟨g, 0, none⟩) n n) L) (hr : Reads q w sp sLen sCap l) (hle : sLen ≤ n) :
    ∃ w', (Builtin.copy_ #[dT, sT] ty #[.slice (some ⟨g, 0, none⟩) n n, .slice sp sLen sCap]).run P w = .ok (goInt sLen) w' ∧ OwnQ q E B w' (.slice (some ⟨g, 0, none⟩) n n) (l ++ L.drop sLen) ∧ ∀ w0, Below B w0 w → Below B w0 w' := by
  have hl := hr.length
  rcases Nat.eq_zero_or_pos sLen with rfl | hp
  · obtain rfl : l = [] := List.eq_nil_of_length_eq_zero hl
    exact ⟨w, run_copy_none (P := P) w dT sT ty elem _ sp n n 0 sCap hu hsz (by simp), by simpa using hO, fun _ h => h⟩
  · have hn := hO.cap.1
    have hmax := hO.cap.2.2
    obtain ⟨-, h2⟩ := hO
    rcases h2 with ⟨h2, -⟩ | ⟨g', cap, cur, he, hBg, hg, hnc, hcm, hcs, hct⟩
    · cases h2
    · obtain ⟨rfl, e2, e3⟩ : g' = g ∧ L.length = n ∧ cap = n := by
        injection he with e1 e2 e3
        injection e1 with e1
        injection e1 with e1
        exact ⟨e1.symm, by omega, by omega⟩
      subst e3
      have hcur : cur.toList = L.map (num q) := by
        rw [← hct, List.take_of_length_le (by simp; omega)]
      obtain ⟨ad, rfl⟩ : ∃ ad, sp = some ad := by
        cases sp with
        | none =>
          have h0 := hr.nil rfl
          have h1 := hr.le
          omega
        | some ad => exact ⟨ad, rfl⟩
      have hrun := run_copy_row (P := P) w dT sT ty elem g' 0 cap cap ad sLen sCap cur E (l.map (num q)) hu hsz hg (by rw [List.length_map, hl]; exact (Nat.min_eq_left hle).symm) hr.news (by simp; omega) (nums_oneCell q l)
      rw [List.length_map, hl] at hrun
      refine ⟨_, hrun, ?_, fun w0 hb => below_setRow hb hBg _⟩
      have hlen : (l ++ L.drop sLen).length = cap := by simp; omega
      show World.ownsRow _ _ _ _ _ _ _
      rw [hlen]
      refine ⟨by rw [List.length_map, hlen, Nat.mul_one], .inr ⟨g', cap, _, rfl, hBg, setRow_heap w g' _ _ E _ hg, Nat.le_refl _, hmax, ?_, ?_⟩⟩
      · simp; omega
      · simp only [List.take_zero, List.nil_append, Nat.zero_add]
        rw [List.take_of_length_le (by simp; omega), hcur, List.map_append, List.map_drop]

end Go.Proofs.YtpefjkndfifceaaDoor
namespace Go.Proofs.YtpefjkndfifceaaDoor
open Go.RowKit
/-- A wheel's cells. -/
structure WhlC (w : World) (g : Nat) (a : Option Addr) (c k : Nat) (a1 : Option Addr) (c1 : Nat) (a2 : Option Addr) (c2 n M : Nat) : Prop where
  lt : g < w.heap.size
  m : w.cell? ⟨g, 0, none⟩ = some (.slice a n c)
  minus : w.cell? ⟨g, 1, none⟩ = some (.int .u32 (k : Int))
  one : w.cell? ⟨g, 2, none⟩ = some (.slice a1 n c1)
  square : w.cell? ⟨g, 3, none⟩ = some (.slice a2 n c2)
  rm : Reads .u32 w a n c (nat32 M)
  r1 : Reads .u32 w a1 n c1 (wideN n (radix n % M))
  r2 : Reads .u32 w a2 n c2 (wideN n (radix n * radix n % M))
  kl : k < 4294967296
  inv : (k * M + 1) % 4294967296 = 0
  odd : M % 2 = 1
  three : 3 ≤ M
  small : M < topM
def Whl (w : World) (p : Value) (n M : Nat) : Prop := ∃ g a c k a1 c1 a2 c2, p = .pointer (some ⟨g, 0, none⟩) ∧ WhlC w g a c k a1 c1 a2 c2 n M

theorem WhlC.below {w w' : World} {g c k c1 c2 n M : Nat} {a a1 a2 : Option Addr} (h : WhlC w g a c k a1 c1 a2 c2 n M) (hb : Below w.heap.size w w') : WhlC w' g a c k a1 c1 a2 c2 n M :=
  ⟨Nat.lt_of_lt_of_le h.lt hb.size, (hb.cell (p := ⟨g, 0, none⟩) h.lt).trans h.m, (hb.cell (p := ⟨g, 1, none⟩) h.lt).trans h.minus, (hb.cell (p := ⟨g, 2, none⟩) h.lt).trans h.one, (hb.cell (p := ⟨g, 3, none⟩) h.lt).trans h.square, h.rm.below hb, h.r1.below hb, h.r2.below hb, h.kl, h.inv, h.odd, h.three, h.small⟩
theorem Whl.below {w w' : World} {p : Value} {n M : Nat} (h : Whl w p n M) (hb : Below w.heap.size w w') : Whl w' p n M := by
  obtain ⟨g, a, c, k, a1, c1, a2, c2, rfl, h⟩ := h
  exact ⟨g, a, c, k, a1, c1, a2, c2, rfl, h.below hb⟩
theorem WhlC.len {w : World} {g c k c1 c2 n M : Nat} {a a1 a2 : Option Addr} (h : WhlC w g a c k a1 c1 a2 c2 n M) : (nat32 M).length = n ∧ 1 ≤ n ∧ n ≤ 128 := by
  have h1 := h.rm.length
  have h2 : (nat32 M).length ≤ 128 := (natB_length (b := 4294967296) (by decide) M 128).2 h.small
  refine ⟨h1, ?_, by omega⟩
  apply Nat.pos_of_ne_zero
  intro e
  have := (natB_nil (b := 4294967296) (by decide)).1 (List.eq_nil_of_length_eq_zero (h1.trans e))
  have := h.three
  omega
theorem WhlC.radix {w : World} {g c k c1 c2 n M : Nat} {a a1 a2 : Option Addr} (h : WhlC w g a c k a1 c1 a2 c2 n M) : M < radix n := by
  have h1 := h.len
  exact (natB_length (b := 4294967296) (by decide) M n).1 (Nat.le_of_eq h1.1)

/-- What is left so far, when the modulus is taken. -/
structure RedI (t m P : List Nat) (k b : Nat) : Prop where
  len : P.length = m.length
  lim : Lim P
  bor : b ≤ 1
  val : val32 (P.take k) + val32 (m.take k) = val32 (t.take k) + 4294967296 ^ k * b

theorem redI_start (t m : List Nat) : RedI t m (List.replicate m.length 0) 0 0 := ⟨by simp, fun x hx => by rw [List.eq_of_mem_replicate hx]; decide, by omega, by simp [val32, valB]⟩
theorem redI_step {t m P : List Nat} {k b : Nat} (h : RedI t m P k b) (ht : Lim t) (hm : Lim m) (hk : k < m.length) : RedI t m (P.set k (subD (t[k]?.getD 0) (m[k]?.getD 0) b)) (k + 1) (subB (t[k]?.getD 0) (m[k]?.getD 0) b) := by
  obtain ⟨h1, h2, h3, h4⟩ := h
  have hx := lim_get ht k
  have hy := lim_get hm k
  have e1 := valB_succ (b := 4294967296) t k
  have e2 := valB_succ (b := 4294967296) m k
  generalize t[k]?.getD 0 = x at *
  generalize m[k]?.getD 0 = y at *
  have hd : subD x y b + y + b = x + 4294967296 * subB x y b := by unfold subD subB; split <;> omega
  have hd2 : subD x y b < 4294967296 := by unfold subD; split <;> omega
  have hb2 : subB x y b ≤ 1 := by unfold subB; split <;> omega
  generalize subD x y b = d at *
  generalize subB x y b = b2 at *
  refine ⟨by simp [h1], mem_set h2 hd2, hb2, ?_⟩
  simp only [val32] at *
  rw [take_set_succ _ _ _ (by omega), valB_snoc, List.length_take, Nat.min_eq_left (by omega), e1, e2]
  have e : 4294967296 ^ (k + 1) * b2 = 4294967296 ^ k * (4294967296 * b2) := by rw [Nat.pow_succ, Nat.mul_assoc]
  have e3 : 4294967296 ^ k * (d + y + b) = 4294967296 ^ k * (x + 4294967296 * b2) := by rw [hd]
  rw [Nat.mul_add, Nat.mul_add, Nat.mul_add] at e3
  rw [e]
  omega

end Go.Proofs.YtpefjkndfifceaaDoor
namespace Go.Proofs.YtpefjkndfifceaaDoor
open Go.RowKit
theorem reads_spot {q : IntKind} {w : World} {b off len cap : Nat} {l : List Nat} (h : Reads q w (some ⟨b, off, none⟩) len cap l) (i : Nat) (hi : i < len) : w.cell? ⟨b, off + i, none⟩ = some (.int q ((l[i]?.getD 0 : Nat) : Int)) := by
  obtain ⟨b', off', e, -, hc⟩ := h.cells (by omega)
  cases e
  exact hc i hi
theorem reads_spot0 {q : IntKind} {w : World} {b off len cap : Nat} {l : List Nat} (h : Reads q w (some ⟨b, off, none⟩) len cap l) (hi : 0 < len) : w.cell? ⟨b, off, none⟩ = some (.int q ((l[0]?.getD 0 : Nat) : Int)) := reads_spot h 0 hi
theorem reads_some {q : IntKind} {w : World} {a : Option Addr} {len cap : Nat} {l : List Nat} (h : Reads q w a len cap l) (hi : 0 < len) : ∃ b off, a = some ⟨b, off, none⟩ := by
  obtain ⟨b', off', e, -, -⟩ := h.cells hi
  exact ⟨b', off', e⟩

/-- One step of the first sum, as the walk meets it. -/
structure Sum3 (x y t f p1 p2 F fd : Nat) : Prop where
  e1 : (x : Int) * (y : Int) = (p1 : Int)
  b1 : p1 < 18446744073709551616
  e2 : (p1 : Int) + (t : Int) = (p2 : Int)
  b2 : p2 < 18446744073709551616
  e3 : (F : Int) / 4294967296 = (fd : Int)
  b3 : fd < 4294967296
  e4 : (p2 : Int) + (fd : Int) = (f : Int)
  b4 : f < 18446744073709551616
theorem sum3 {x y t F : Nat} (hx : x < 4294967296) (hy : y < 4294967296) (ht : t < 4294967296) (hF : F < 18446744073709551616) : ∃ f p1 p2 fd, Sum3 x y t f p1 p2 F fd ∧ f = x * y + t + F / 4294967296 := by
  have h : x * y ≤ 4294967295 * 4294967295 := Nat.mul_le_mul (by omega) (by omega)
  exact ⟨x * y + t + F / 4294967296, x * y, x * y + t, F / 4294967296, ⟨by simp, by omega, by omega, by omega, by omega, by omega, by omega, by omega⟩, rfl⟩
/-- The start of a round. -/
structure Sum2 (x y t f p1 : Nat) : Prop where
  e1 : (x : Int) * (y : Int) = (p1 : Int)
  b1 : p1 < 18446744073709551616
  e2 : (p1 : Int) + (t : Int) = (f : Int)
  b2 : f < 18446744073709551616
theorem sum2 {x y t : Nat} (hx : x < 4294967296) (hy : y < 4294967296) (ht : t < 4294967296) : ∃ f p1, Sum2 x y t f p1 ∧ f = x * y + t := by
  have h : x * y ≤ 4294967295 * 4294967295 := Nat.mul_le_mul (by omega) (by omega)
  exact ⟨x * y + t, x * y, ⟨by simp, by omega, by omega, by omega⟩, rfl⟩
theorem low32 (f : Nat) : ∃ m : Nat, (f : Int) % 4294967296 = (m : Int) ∧ m < 4294967296 ∧ m = f % 4294967296 := ⟨f % 4294967296, by omega, by omega, rfl⟩
theorem prod32 (f k : Nat) : ∃ q : Nat, (f : Int) * (k : Int) % 4294967296 = (q : Int) ∧ q < 4294967296 ∧ q = f * k % 4294967296 := ⟨f * k % 4294967296, by rw [← Int.natCast_mul]; omega, by omega, rfl⟩

theorem quot_zero {f k M m0 q : Nat} (hk : (k * M + 1) % 4294967296 = 0) (hm : m0 = M % 4294967296) (hq : q = f % 4294967296 * k % 4294967296) : (q * m0 + f % 4294967296) % 4294967296 = 0 := by
  subst hq hm
  have e1 : (f % 4294967296 * k % 4294967296 * (M % 4294967296) + f % 4294967296) % 4294967296 = (f % 4294967296 * (k * M + 1)) % 4294967296 := by
    rw [Nat.mul_add, Nat.mul_one, ← Nat.mul_assoc]
    rw [Nat.add_mod, Nat.mod_mul_mod, Nat.mul_mod_mod, ← Nat.add_mod]
  rw [e1, Nat.mul_mod, hk, Nat.mul_zero, Nat.zero_mod]

end Go.Proofs.YtpefjkndfifceaaDoor

namespace Go.Proofs.YtpefjkndfifceaaDoor
open Go.RowKit

theorem of_nat (n : Int) (k : Nat) (hk : n = k) (w : World) (hn : k < 18446744073709551616) : Calls Tryd.prog 27 #[.int .u64 n] w fun e w' => (∃ v, e = .returned v ∧ NatC w' v k) ∧ Below w.heap.size w w' :=
  (of_any n k hk w hn).mono fun e w' ⟨⟨v, he, ho⟩, hb⟩ => ⟨⟨v, he, NatC.of ho⟩, hb⟩
theorem natC_slice {w : World} {v : Value} {n : Nat} (h : NatC w v n) : ∃ a cap, v = .slice a (nat32 n).length cap ∧ NatC w (.slice a (nat32 n).length cap) n := by
  obtain ⟨a, len, cap, rfl, hr⟩ := h
  obtain rfl : (nat32 n).length = len := hr.length
  exact ⟨a, cap, rfl, ⟨a, _, cap, rfl, hr⟩⟩
theorem natC_small {w : World} {v : Value} {n : Nat} (h : NatC w v n) (hn : n < topN) : Small v := fun a len cap e => by
  obtain ⟨a', len', cap', rfl, hr⟩ := h
  cases e
  have := (natB_length (b := 4294967296) (by decide) n 256).2 hn
  rw [← hr.length]
  exact Nat.le_trans this (by decide)
theorem lt_topM {n : Nat} (h : n < 4294967296 ^ 2) : n < topM := Nat.lt_of_lt_of_le h (by unfold topM; exact Nat.pow_le_pow_right (by decide) (by decide))

end Go.Proofs.YtpefjkndfifceaaDoor

namespace Go.Proofs.YtpefjkndfifceaaDoor
open Go.RowKit

/-- A natural as wide as the modulus. -/
def WideAt (w : World) (v : Value) (n X : Nat) : Prop := ∃ a c, v = .slice a n c ∧ Reads .u32 w a n c (wideN n X) ∧ X < radix n
theorem WideAt.below {w w' : World} {v : Value} {n X : Nat} (h : WideAt w v n X) (hb : Below w.heap.size w w') : WideAt w' v n X := by
  obtain ⟨a, c, hv, hr, hx⟩ := h
  exact ⟨a, c, hv, hr.below hb, hx⟩
theorem WideAt.of {E B : Nat} {w : World} {v : Value} {n X : Nat} (h : OwnQ .u32 E B w v (wideN n X)) (hX : X < radix n) : WideAt w v n X := by
  obtain ⟨a, m, c, rfl, hm, ho⟩ := h.slice
  obtain rfl : m = n := hm.trans (wideN_len hX)
  exact ⟨a, c, rfl, ho.reads, hX⟩

theorem WhlC.natM {w : World} {g c k c1 c2 n M : Nat} {a a1 a2 : Option Addr} (h : WhlC w g a c k a1 c1 a2 c2 n M) : NatAt w (.slice a n c) M := NatC.at ⟨_, _, _, rfl, h.rm⟩

theorem squareR {n M X : Nat} (hM : 2 ≤ M) (ho : M % 2 = 1) : monN n M (X % M * (radix n * radix n % M)) = X * radix n % M := by
  refine (monN_eq hM ho (Nat.mod_lt _ (by omega)) ?_).symm
  rw [Nat.mul_mod_mod, ← Nat.mul_mod]
  congr 1
  ac_rfl
theorem oneR {n M X : Nat} (hX : X = 1) (z : Nat) : monN n M (z * X) = monN n M z := by rw [hX, Nat.mul_one]

theorem Whl.val {w : World} {p : Value} {n M : Nat} (h : Whl w p n M) : 1 ≤ n ∧ n ≤ 128 ∧ M < radix n ∧ M < topM ∧ 3 ≤ M ∧ M % 2 = 1 := by
  obtain ⟨g, a, c, k, a1, c1, a2, c2, rfl, h⟩ := h
  exact ⟨h.len.2.1, h.len.2.2, h.radix, h.small, h.three, h.odd⟩

end Go.Proofs.YtpefjkndfifceaaDoor
namespace Go.Proofs.YtpefjkndfifceaaDoor
open Go.RowKit
theorem OwnQ.keep {q : IntKind} {E B : Nat} {w w2 : World} {v : Value} {l : List Nat} (h : OwnQ q E B w v l) (hk : ∀ i, B ≤ i → i < w.heap.size → w2.heap[i]? = w.heap[i]?) : OwnQ q E B w2 v l := by
  obtain ⟨h1, h2⟩ := h
  refine ⟨h1, ?_⟩
  rcases h2 with h2 | ⟨g, cap, cur, hv, hB, hg, h3⟩
  · exact .inl h2
  · refine .inr ⟨g, cap, cur, hv, hB, ?_, h3⟩
    rw [hk g hB (Array.getElem?_eq_some_iff.1 hg).1]
    exact hg

/-- A wheel that hangs on the blocks from B on alone. -/
def WhlFrom (B : Nat) (w : World) (p : Value) (n M : Nat) : Prop := ∀ w2 : World, w.heap.size ≤ w2.heap.size → (∀ i, B ≤ i → i < w.heap.size → w2.heap[i]? = w.heap[i]?) → Whl w2 p n M
theorem WhlFrom.whl {B n M : Nat} {w : World} {p : Value} (h : WhlFrom B w p n M) : Whl w p n M := h w (Nat.le_refl _) (fun _ _ _ => rfl)
theorem WhlFrom.mono {B B' n M : Nat} {w : World} {p : Value} (h : WhlFrom B w p n M) (hB : B' ≤ B) : WhlFrom B' w p n M := fun w2 h1 h2 => h w2 h1 (fun i hi hl => h2 i (by omega) hl)

theorem WhlFrom.new {B n M k : Nat} {E : TypeId} {w : World} {a a1 a2 : Option Addr} {c c1 c2 : Nat} {vm v1 v2 : Value} (hB : B ≤ w.heap.size) (hm : OwnQ .u32 64 B w vm (nat32 M)) (h1 : OwnQ .u32 64 B w v1 (wideN n (radix n % M))) (h2 : OwnQ .u32 64 B w v2 (wideN n (radix n * radix n % M)))
    (em : vm = .slice a n c) (e1 : v1 = .slice a1 n c1) (e2 : v2 = .slice a2 n c2) (kl : k < 4294967296) (inv : (k * M + 1) % 4294967296 = 0) (odd : M % 2 = 1) (three : 3 ≤ M) (small : M < topM) :
    WhlFrom B (w.alloc (.cells #[vm, .int .u32 (k : Int), v1, v2] E)) (.pointer (some ⟨w.heap.size, 0, none⟩)) n M := by
  subst em e1 e2
  intro w2 hs hk
  rw [World.size_alloc] at hs hk
  have hk2 : ∀ i, B ≤ i → i < w.heap.size → w2.heap[i]? = w.heap[i]? := fun i hi hl => by
    rw [hk i hi (by omega)]
    exact ((Below.refl w.heap.size w).alloc (Nat.le_refl _) _).block i hl
  have hg : w2.heap[w.heap.size]? = some (.cells #[.slice a n c, .int .u32 (k : Int), .slice a1 n c1, .slice a2 n c2] E (0, 0)) := by
    rw [hk _ hB (by omega)]
    exact heap_alloc_new w _
  refine ⟨w.heap.size, a, c, k, a1, c1, a2, c2, rfl, ?_⟩
  refine ⟨by omega, ?_, ?_, ?_, ?_, (hm.keep hk2).reads, (h1.keep hk2).reads, (h2.keep hk2).reads, kl, inv, odd, three, small⟩
  all_goals
    rw [cell_of_row w2 w.heap.size _ _ E (0, 0) hg]
    rfl

theorem testBit_odd {M : Nat} (h : M % 2 = 1) : M.testBit 0 = true := by simp [Nat.testBit_zero, h]
theorem testBit_even {M : Nat} (h : ¬ M % 2 = 1) : M.testBit 0 = false := by simp [Nat.testBit_zero]; omega

theorem radix_le {n : Nat} (h : n ≤ 128) : radix n < topN := by
  have h1 : radix n ≤ topM := Nat.pow_le_pow_right (by decide) h
  have h2 : topM < topN := by
    unfold topM topN
    exact Nat.pow_lt_pow_right (by decide) (by decide)
  omega

end Go.Proofs.YtpefjkndfifceaaDoor
namespace Go.Proofs.YtpefjkndfifceaaDoor
open Go.RowKit
theorem natAt_nil (w : World) : NatAt w (.slice none 0 0) 0 := ⟨none, 0, 0, [], rfl, Reads.none _ _, fun x hx => (by cases hx), rfl⟩

def inR (n M X : Nat) : List Nat × Int := if X < topN then (nat32 (X * radix n % M), 0) else ([], 20)
theorem inR_yes {n M X : Nat} (h : X < topN) : inR n M X = (nat32 (X * radix n % M), 0) := if_pos h
theorem inR_no {n M X : Nat} (h : ¬ X < topN) : inR n M X = ([], 20) := if_neg h
def outR (n M X : Nat) : List Nat × Int := if X < M then (nat32 (monN n M X), 0) else ([], 70)
theorem outR_yes {n M X : Nat} (h : X < M) : outR n M X = (nat32 (monN n M X), 0) := if_pos h
theorem outR_no {n M X : Nat} (h : ¬ X < M) : outR n M X = ([], 70) := if_neg h
def productR (n M X Y : Nat) : List Nat × Int := if X < M ∧ Y < M then (nat32 (monN n M (X * Y)), 0) else ([], 70)
theorem productR_yes {n M X Y : Nat} (h : X < M) (k : Y < M) : productR n M X Y = (nat32 (monN n M (X * Y)), 0) := if_pos ⟨h, k⟩
theorem productR_no {n M X Y : Nat} (h : ¬ (X < M ∧ Y < M)) : productR n M X Y = ([], 70) := if_neg h

end Go.Proofs.YtpefjkndfifceaaDoor

namespace Go.Proofs.YtpefjkndfifceaaDoor
open Go.RowKit Go.Shelf
attribute [local go_sem] Oper.semAt_some

theorem Reads.keptCells {q : IntKind} {W W' : World} {row : Option Nat} {a : Option Addr} {len cap : Nat} {l : List Nat} (h : Reads q W a len cap l) (hg : W.grownBy W' row) (hr : ∀ r, row = some r → ∃ o : Obj, W.heap[r]? = some o ∧ o.isCells = false) : Reads q W' a len cap l :=
  ⟨h.length, h.le, h.max, h.nil, fun hp => by
    obtain ⟨b, off, rfl, hb, hc⟩ := h.cells hp
    refine ⟨b, off, rfl, Nat.lt_of_lt_of_le hb hg.size, fun i hi => ?_⟩
    have h1 := hc i hi
    refine (World.cell?_of_block (hg.block b hb ?_)).trans h1
    intro e
    obtain ⟨o, ho, hcl⟩ := hr b e.symm
    simp only [World.cell?, ho] at h1
    cases o <;> simp_all [Obj.isCells]⟩

/-- What a round keeps: all below n₀, and a box. -/
def KpB (n₀ b : Nat) (W W' : World) : Prop := Below n₀ W W' ∧ ∀ t v, Boxed W b t v → Boxed W' b t v
theorem kpB_t {n₀ b : Nat} {A B C : World} (h : KpB n₀ b A B) (k : KpB n₀ b B C) : KpB n₀ b A C := ⟨h.1.trans k.1, fun t v x => k.2 t v (h.2 t v x)⟩
theorem kpB_b {n₀ b : Nat} {w : World} (hn : n₀ ≤ w.heap.size) (W : World) (l : Nat) (o o' : Obj) (hl : w.heap.size ≤ l) (h : W.heap[l]? = some o) (hc : o.isCells = false) (hw : o.isWalk = false) : KpB n₀ b W (W.putObj l o') :=
  ⟨belowK_b hn W l o o' hl h hc hw, fun _ _ x => boxed_putObj x l o o' h hc⟩

abbrev encB {m : Nat} (f : Nat → Bool) (x : Place m) : Array Value := #[.bool (f x.1)]

end Go.Proofs.YtpefjkndfifceaaDoor
namespace Go.Proofs.YtpefjkndfifceaaDoor
open Go.RowKit Go.Shelf
attribute [local go_sem] Oper.semAt_some
theorem pairA (w : World) (T T' : TypeId) (f v : Value) : Hid (Boxed ((w.alloc (.cells #[f] T)).alloc (.cells #[v] T')).drew w.heap.size T f ∧ Boxed ((w.alloc (.cells #[f] T)).alloc (.cells #[v] T')).drew (w.heap.size + 1) T' v ∧ w.heap.size ≠ w.heap.size + 1 ∧ w.heap.size ≤ w.heap.size ∧ w.heap.size ≤ w.heap.size + 1 ∧ Below w.heap.size w ((w.alloc (.cells #[f] T)).alloc (.cells #[v] T')).drew) := by
  refine ⟨(Boxed.new w T f).alloc (.cells #[v] T'), ?_, by omega, by omega, by omega, (((Below.refl w.heap.size w).alloc (Nat.le_refl _) _).alloc (by simp) _).drew⟩
  have h := Boxed.new (w.alloc (.cells #[f] T)) T' v
  simp only [World.size_alloc] at h
  exact h
theorem pairB (w : World) (T T' : TypeId) (f v : Value) : Hid (Boxed ((w.alloc (.cells #[v] T')).alloc (.cells #[f] T)).drew (w.heap.size + 1) T f ∧ Boxed ((w.alloc (.cells #[v] T')).alloc (.cells #[f] T)).drew w.heap.size T' v ∧ w.heap.size + 1 ≠ w.heap.size ∧ w.heap.size ≤ w.heap.size + 1 ∧ w.heap.size ≤ w.heap.size ∧ Below w.heap.size w ((w.alloc (.cells #[v] T')).alloc (.cells #[f] T)).drew) := by
  refine ⟨?_, (Boxed.new w T' v).alloc (.cells #[f] T), by omega, by omega, by omega, (((Below.refl w.heap.size w).alloc (Nat.le_refl _) _).alloc (by simp) _).drew⟩
  have h := Boxed.new (w.alloc (.cells #[v] T')) T f
  simp only [World.size_alloc] at h
  exact h

theorem below_keeps {W W' : World} (h : Below W.heap.size W W') : KeepsOthers W W' := ⟨h.size, fun k o hk _ => (h.block k (Array.getElem?_eq_some_iff.1 hk).1).trans hk⟩

theorem pow_zero_bits {K m : Nat} (h : m = bitsN K) : K / 2 ^ m = 0 := Nat.div_eq_of_lt ((bitsN_le K m).1 (by omega))
theorem pow_step0 {X K M n j : Nat} (hM : 2 ≤ M) (ho : M % 2 = 1) (hb : K.testBit j = false) : monN n M (X ^ (K / 2 ^ (j + 1)) * radix n % M * (X ^ (K / 2 ^ (j + 1)) * radix n % M)) = X ^ (K / 2 ^ j) * radix n % M := by
  rw [monN_both hM ho, ← Nat.pow_add]
  have h : K / 2 ^ j = K / 2 ^ (j + 1) + K / 2 ^ (j + 1) := by
    rw [Nat.testBit_eq_decide_div_mod_eq] at hb
    have hb2 := of_decide_eq_false hb
    rw [Nat.pow_succ, ← Nat.div_div_eq_div_mul]
    omega
  rw [h]
theorem pow_step1 {X K M n j : Nat} (hM : 2 ≤ M) (ho : M % 2 = 1) (hb : K.testBit j = true) : monN n M (monN n M (X ^ (K / 2 ^ (j + 1)) * radix n % M * (X ^ (K / 2 ^ (j + 1)) * radix n % M)) * (X * radix n % M)) = X ^ (K / 2 ^ j) * radix n % M := by
  rw [monN_both hM ho, monN_both hM ho, ← Nat.pow_add]
  have h : K / 2 ^ j = K / 2 ^ (j + 1) + K / 2 ^ (j + 1) + 1 := by
    rw [Nat.testBit_eq_decide_div_mod_eq] at hb
    have hb2 := of_decide_eq_true hb
    rw [Nat.pow_succ, ← Nat.div_div_eq_div_mul]
    omega
  rw [h, show X ^ (K / 2 ^ (j + 1) + K / 2 ^ (j + 1) + 1) = X ^ (K / 2 ^ (j + 1) + K / 2 ^ (j + 1)) * X from Nat.pow_succ ..]

end Go.Proofs.YtpefjkndfifceaaDoor
namespace Go.Proofs.YtpefjkndfifceaaDoor
open Go.RowKit
def powR (M X K : Nat) : List Nat × Int := if X < topN ∧ K < topN then (nat32 (X ^ K % M), 0) else ([], 20)
theorem powR_yes {M X K : Nat} (h : X < topN) (k : K < topN) : powR M X K = (nat32 (X ^ K % M), 0) := if_pos ⟨h, k⟩
theorem powR_no {M X K : Nat} (h : ¬ (X < topN ∧ K < topN)) : powR M X K = ([], 20) := if_neg h

def Mod3 (M : Nat) : Prop := M < topM ∧ 3 ≤ M ∧ M % 2 = 1

end Go.Proofs.YtpefjkndfifceaaDoor

namespace Go.Proofs.YtpefjkndfifceaaDoor
open Go.RowKit

theorem topM_256 (m : Nat) (h : m = 512) : topM = 256 ^ m := by
  obtain ⟨t, ht⟩ : ∃ t, t = 128 := ⟨_, rfl⟩
  have e : m = 4 * t := by omega
  rw [e, ← pow32, ht]
  rfl

/-- How far the product has fallen behind k turns. -/
def EuI (A B P k : Nat) : Prop := (k = 0 ∧ A * B ≤ P) ∨ ∃ j, k = j + 1 ∧ B ≤ A ∧ 2 ^ j * (A * B) ≤ P

theorem EuI.start (A B : Nat) : EuI A B (A * B) 0 := .inl ⟨rfl, Nat.le_refl _⟩
theorem EuI.step {A B P k : Nat} (h : EuI A B P k) (hB : 0 < B) : EuI B (A % B) P (k + 1) := by
  have hm := Nat.mod_lt A hB
  rcases h with ⟨rfl, h⟩ | ⟨j, rfl, hle, h⟩
  · refine .inr ⟨0, rfl, Nat.le_of_lt hm, ?_⟩
    have h1 : B * (A % B) ≤ B * A := Nat.mul_le_mul_left _ (Nat.mod_le _ _)
    rw [Nat.mul_comm B A] at h1
    simp
    omega
  · refine .inr ⟨j + 1, rfl, Nat.le_of_lt hm, ?_⟩
    have hd := Nat.mod_add_div A B
    have hq : 1 ≤ A / B := (Nat.le_div_iff_mul_le hB).2 (by omega)
    have hBq : B * 1 ≤ B * (A / B) := Nat.mul_le_mul_left _ hq
    have h2 : 2 * (A % B) ≤ A := by omega
    have h3 : B * (2 * (A % B)) ≤ B * A := Nat.mul_le_mul_left _ h2
    have h4 : 2 ^ j * (B * (2 * (A % B))) ≤ 2 ^ j * (B * A) := Nat.mul_le_mul_left _ h3
    have e : 2 ^ (j + 1) * (B * (A % B)) = 2 ^ j * (B * (2 * (A % B))) := by
      rw [Nat.pow_succ, Nat.mul_assoc, ← Nat.mul_assoc 2, ← Nat.mul_assoc B, Nat.mul_comm 2 B]
    rw [e]
    rw [Nat.mul_comm B A] at h4
    omega
theorem EuI.few {A B P k E : Nat} (h : EuI A B P k) (hB : 0 < B) (hP : P < 2 ^ E) : k ≤ E := by
  rcases h with ⟨rfl, -⟩ | ⟨j, rfl, hle, h⟩
  · exact Nat.zero_le _
  · have hp : 1 ≤ A * B := Nat.mul_pos (by omega) hB
    have h1 : 2 ^ j * 1 ≤ 2 ^ j * (A * B) := Nat.mul_le_mul_left _ hp
    have h2 : 2 ^ j < 2 ^ E := by omega
    exact (Nat.pow_lt_pow_iff_right (by decide)).1 h2

/-- A natural in a slice that is not too long for the reference. -/
def NatS (w : World) (v : Value) (n : Nat) : Prop := ∃ a len cap l, v = .slice a len cap ∧ Reads .u32 w a len cap l ∧ Lim l ∧ val32 l = n ∧ len ≤ 1000000000000
theorem NatS.below {w w' : World} {v : Value} {n : Nat} (h : NatS w v n) (hb : Below w.heap.size w w') : NatS w' v n := by
  obtain ⟨a, len, cap, l, hv, hr, hl, hn, hm⟩ := h
  exact ⟨a, len, cap, l, hv, hr.below hb, hl, hn, hm⟩
theorem NatS.of {E B : Nat} {w : World} {v : Value} {n : Nat} (h : OwnQ .u32 E B w v (nat32 n)) (hn : n < topN) : NatS w v n := by
  obtain ⟨a, len, cap, rfl, hl, ho⟩ := h.slice
  have := (own_short (k := 256) ho).2 hn
  exact ⟨a, len, cap, nat32 n, rfl, ho.reads, natB_digit (by decide) _, natB_val (by decide) _, by omega⟩
theorem NatS.at {w : World} {v : Value} {n : Nat} (h : NatS w v n) : NatAt w v n := by
  obtain ⟨a, len, cap, l, hv, hr, hl, hn, _⟩ := h
  exact ⟨a, len, cap, l, hv, hr, hl, hn⟩
theorem NatS.nil (w : World) : NatS w (.slice none 0 0) 0 := ⟨none, 0, 0, [], rfl, Reads.none _ _, fun x hx => (by cases hx), rfl, by omega⟩
theorem NatS.one (w : World) (E : TypeId) : NatS (w.alloc (.cells #[.int .u32 1] E)) (.slice (some ⟨w.heap.size, 0, none⟩) 1 1) 1 := ⟨_, 1, 1, [1], rfl, Reads.one .u32 _ _ _ _ rfl, fun x hx => by
  obtain rfl := List.mem_singleton.1 hx
  decide, rfl, by omega⟩
theorem NatS.lim {w : World} {a : Option Addr} {len cap : Nat} {l : List Nat} (hr : Reads .u32 w a len cap l) (hl : Lim l) (hm : len ≤ 1000000000000) : NatS w (.slice a len cap) (val32 l) := ⟨a, len, cap, l, rfl, hr, hl, rfl, hm⟩

namespace rf

theorem cmp_s {x y : Value} {X Y : Nat} {w : World} (hx : NatS w x X) (hy : NatS w y Y) (r : Int) (h : r = ordR X Y) : Calls Tryd.prog 17 #[x, y] w fun e w' => e = .returned (.int .i64 r) ∧ Below w.heap.size w w' := by
  obtain ⟨a, n, c, l, rfl, hr, hl, rfl, hm⟩ := hx
  obtain ⟨a', n', c', l', rfl, hr', hl', rfl, hm'⟩ := hy
  exact cmp_any a a' n c n' c' l l' w hr hr' hl hl' hm hm' r h
theorem digits_s {x : Value} {X : Nat} {w : World} (hx : NatS w x X) : Calls Tryd.prog 30 #[x] w fun e w' => RetsQ .i64 3 w.heap.size w' (natB 256 X) e ∧ Below w.heap.size w w' := by
  obtain ⟨a, n, c, l, rfl, hr, hl, rfl, hm⟩ := hx
  exact digits_any a n c l w hr hl hm

end rf

end Go.Proofs.YtpefjkndfifceaaDoor

namespace Go.Proofs.YtpefjkndfifceaaDoor
open Go.RowKit
namespace rf

end rf
end Go.Proofs.YtpefjkndfifceaaDoor
namespace Go.Proofs.YtpefjkndfifceaaDoor
open Go.RowKit
namespace rf
theorem byt_len {n m : Nat} (h : n < topN) (hm : (natB 256 n).length = m) : m ≤ 1024 := by
  rw [← hm]
  exact (nat256_le n).2 h

end rf
end Go.Proofs.YtpefjkndfifceaaDoor
namespace Go.Proofs.YtpefjkndfifceaaDoor
open Go.RowKit
namespace rf
/-- Between two rounds: what each rest is, as so many times the number. -/
structure RInv (M X A B S T : Nat) : Prop where
  gcd : Nat.gcd A B = Nat.gcd M X
  pos : 0 < A
  le : A ≤ M
  lt : B < M
  s : S < M
  t : T < M
  elder : (M : Int) ∣ (A : Int) - S * X
  rest : (M : Int) ∣ (B : Int) - T * X

theorem rinv_ring (r B q S T M c X : Int) : r - (S - q * T + M * c) * X = (r + B * q - S * X) - q * (B - T * X) - M * (c * X) := by
  have e1 : q * T * X = q * (T * X) := Int.mul_assoc _ _ _
  have e2 : B * q = q * B := Int.mul_comm _ _
  have e3 : M * c * X = M * (c * X) := Int.mul_assoc _ _ _
  simp only [Int.sub_mul, Int.add_mul, Int.mul_sub]
  omega

theorem RInv.start {M X : Nat} (h2 : 2 ≤ M) : RInv M X M (X % M) 0 1 := by
  refine ⟨?_, by omega, Nat.le_refl _, Nat.mod_lt _ (by omega), by omega, by omega, by simp, ?_⟩
  · rw [Nat.gcd_comm M (X % M), ← Nat.gcd_rec]
  · refine ⟨-((X / M : Nat) : Int), ?_⟩
    have h := Nat.mod_add_div X M
    have h2 : (X : Int) = ((X % M : Nat) : Int) + (M : Int) * ((X / M : Nat) : Int) := by rw [← Int.natCast_mul, ← Int.natCast_add, h]
    rw [Int.mul_neg]
    omega

theorem next_eq {M q S T : Nat} (hM : 0 < M) : ∃ c : Int, (((S + M - q * T % M) % M : Nat) : Int) = (S : Int) - (q : Int) * T + M * c := by
  have h1 := Nat.mod_lt (q * T) hM
  have h2 := Nat.mod_add_div (q * T) M
  have h3 := Nat.mod_add_div (S + M - q * T % M) M
  refine ⟨1 + ((q * T / M : Nat) : Int) - (((S + M - q * T % M) / M : Nat) : Int), ?_⟩
  rw [Int.mul_sub, Int.mul_add, Int.mul_one, ← Int.natCast_mul, ← Int.natCast_mul, ← Int.natCast_mul]
  generalize M * (q * T / M) = u at *
  generalize M * ((S + M - q * T % M) / M) = v at *
  generalize (S + M - q * T % M) % M = z at *
  generalize q * T % M = p at *
  generalize q * T = g at *
  omega

theorem RInv.step {M X A B S T : Nat} (h : RInv M X A B S T) (hB : 0 < B) : RInv M X B (A % B) T ((S + M - A / B * T % M) % M) := by
  obtain ⟨h1, h2, h3, h4, h5, h6, h7, h8⟩ := h
  have hM : 0 < M := by omega
  have hm := Nat.mod_lt A hB
  refine ⟨?_, hB, Nat.le_of_lt h4, by omega, h6, Nat.mod_lt _ hM, h8, ?_⟩
  · rw [← h1, Nat.gcd_comm B, ← Nat.gcd_rec, Nat.gcd_comm]
  · obtain ⟨c, hc⟩ := next_eq (M := M) (q := A / B) (S := S) (T := T) hM
    have hq := Nat.mod_add_div A B
    have hq2 : (A : Int) = ((A % B : Nat) : Int) + (B : Int) * ((A / B : Nat) : Int) := by rw [← Int.natCast_mul, ← Int.natCast_add, hq]
    rw [hc, rinv_ring _ (B : Int), ← hq2]
    exact Int.dvd_sub (Int.dvd_sub h7 (Int.dvd_mul_of_dvd_right h8)) ⟨_, rfl⟩

theorem RInv.fin {M X S T : Nat} (h : RInv M X 1 0 S T) (hM : 2 ≤ M) : invN X M = S := by
  refine invN_eq h.s (mod_of_dvd hM ?_)
  have := h.elder
  rw [Int.natCast_mul, Int.mul_comm (X : Int)]
  exact this

theorem len_pos {E B n len cap : Nat} {w : World} {a : Option Addr} (h : OwnQ .u32 E B w (.slice a len cap) (nat32 n)) (hn : 0 < n) : 0 < len := Nat.pos_of_ne_zero fun e => by
  have := (own_zero h).1 e
  omega

end rf
end Go.Proofs.YtpefjkndfifceaaDoor

namespace Go.Proofs.YtpefjkndfifceaaDoor
open Go.RowKit
namespace rf

theorem ordR_le1 {M : Nat} (h : ¬ 2 ≤ M) : ∃ o : Int, o = ordR M 1 ∧ o ≤ 0 := ⟨_, rfl, by unfold ordR; split <;> (try split) <;> omega⟩

end rf
end Go.Proofs.YtpefjkndfifceaaDoor

namespace Go.Proofs.YtpefjkndfifceaaDoor
open Go.RowKit

instance (M : Nat) : Decidable (Mod3 M) := by unfold Mod3; infer_instance

namespace rf

theorem bit_s {x : Value} {X : Nat} {w : World} (hx : NatS w x X) (i : Int) (hi : i ≤ 9223372036854775807) (r : Bool) (h : r = (decide (0 ≤ i) && X.testBit i.toNat)) : Calls Tryd.prog 16 #[x, .int .i64 i] w fun e w' => e = .returned (.bool r) ∧ Below w.heap.size w w' := by
  obtain ⟨a, n, c, l, rfl, hr, hl, rfl, hm⟩ := hx
  exact bit_any a n c l w hr hl hm i hi r h
theorem bits_s {x : Value} {X : Nat} {w : World} (hx : NatS w x X) (b : Nat) (h : b = Go.Proofs.YtpefjkndfifceaaDoor.bitsN X) : Calls Tryd.prog 15 #[x] w fun e w' => e = .returned (.int .i64 (b : Int)) ∧ Below w.heap.size w w' := by
  obtain ⟨a, n, c, l, rfl, hr, hl, rfl, hm⟩ := hx
  exact bits_any a n c l w hr hl hm b h

theorem mod3_bits (M : Nat) : decide (Mod3 M) = (decide (M < topM) && M.testBit 0 && decide (0 < ordR M 1)) := by
  by_cases h1 : M < topM
  · by_cases h2 : M % 2 = 1
    · rw [testBit_odd h2, decide_eq_true h1]
      by_cases h3 : 3 ≤ M
      · rw [decide_eq_true (show Mod3 M from ⟨h1, h3, h2⟩), ordR_gt (by omega)]
        rfl
      · rw [decide_eq_false (show ¬ Mod3 M from fun h => h3 h.2.1), ordR_eq (show M = 1 by omega)]
        rfl
    · rw [testBit_even h2, decide_eq_false (show ¬ Mod3 M from fun h => h2 h.2.2)]
      simp
  · rw [decide_eq_false h1, decide_eq_false (show ¬ Mod3 M from fun h => h1 h.1)]
    simp

theorem limbs_up {M b : Nat} (h : b = Go.Proofs.YtpefjkndfifceaaDoor.bitsN M) : (b + 31) / 32 = (nat32 M).length := by
  have key : ∀ k, (nat32 M).length ≤ k ↔ b ≤ 32 * k := fun k => by
    rw [natB_length (b := 4294967296) (by decide), h, Go.Proofs.YtpefjkndfifceaaDoor.bitsN_le]
    rw [show (4294967296 : Nat) ^ k = 2 ^ (32 * k) by rw [Nat.pow_mul]]
  have h1 := (key _).1 (Nat.le_refl _)
  have h2 := (key ((b + 31) / 32)).2 (by omega)
  omega

theorem natS_radix {B n : Nat} {w : World} {v : Value} (h : OwnQ .u32 64 B w v ((List.replicate (n + 1) 0).set n 1)) (hn : n ≤ 100000) : NatS w v (radix n) := by
  obtain ⟨a, len, c, rfl, hl, ho⟩ := own_slice h
  refine ⟨a, len, c, _, rfl, ho.reads, ?_, ?_, by simp at hl; omega⟩
  · intro x hx
    rcases List.mem_or_eq_of_mem_set hx with h | h
    · rw [List.eq_of_mem_replicate h]; decide
    · rw [h]; decide
  · have := valB_set 4294967296 (List.replicate (n + 1) 0) n 1 (by simp)
    simp only [val32]
    rw [valB_zeros] at this
    simp at this
    exact this

theorem invR_radix {n M : Nat} (hM : Mod3 M) (hn : n ≤ 128) : invR (radix n) M = (nat32 (invN (radix n) M), 0) := invR_yes hM.1 (radix_le hn) (by have := hM.2.1; omega) (gcd_radix hM.2.2 n)
theorem invR_lt {n M : Nat} (hM : Mod3 M) : invN (radix n) M < M := (mon_inv (by have := hM.2.1; omega) (gcd_radix hM.2.2 n)).1
theorem len128 {M : Nat} (hM : Mod3 M) : (nat32 M).length ≤ 128 := (natB_length (b := 4294967296) (by decide) M 128).2 hM.1

theorem prod_form (n M X Y : Nat) : X * Y % M * invN (radix n) M % M = monN n M (X * Y) := by unfold monN; rw [Nat.mod_mul_mod]

end rf
end Go.Proofs.YtpefjkndfifceaaDoor
namespace Go.Proofs.YtpefjkndfifceaaDoor
open Go.RowKit
namespace rf
theorem low_step {X K M i : Nat} (hb : K.testBit i = true) : X ^ (K % 2 ^ i) % M * (X ^ 2 ^ i % M) % M = X ^ (K % 2 ^ (i + 1)) % M := by
  rw [← Nat.mul_mod, ← Nat.pow_add]
  congr 2
  rw [Nat.testBit_eq_decide_div_mod_eq] at hb
  have h := of_decide_eq_true hb
  rw [Nat.pow_succ, Nat.mod_mul, h, Nat.mul_one]
theorem low_stay {X K M i : Nat} (hb : K.testBit i = false) : X ^ (K % 2 ^ i) % M = X ^ (K % 2 ^ (i + 1)) % M := by
  congr 2
  rw [Nat.testBit_eq_decide_div_mod_eq] at hb
  have h := of_decide_eq_false hb
  have h2 : K / 2 ^ i % 2 = 0 := by omega
  rw [Nat.pow_succ, Nat.mod_mul, h2, Nat.mul_zero, Nat.add_zero]
theorem by_step {X M i : Nat} : X ^ 2 ^ i % M * (X ^ 2 ^ i % M) % M = X ^ 2 ^ (i + 1) % M := by
  rw [← Nat.mul_mod, ← Nat.pow_add]
  congr 2
  rw [Nat.pow_succ]
  omega
theorem low_all {K b : Nat} (h : b = Go.Proofs.YtpefjkndfifceaaDoor.bitsN K) : K % 2 ^ b = K := Nat.mod_eq_of_lt ((Go.Proofs.YtpefjkndfifceaaDoor.bitsN_le K b).1 (by omega))

/-- A natural in a slice that is trimmed, or a 1. -/
theorem one_own (B : Nat) (w : World) (hB : B ≤ w.heap.size) : OwnQ .u32 64 B (w.alloc (.cells #[.int .u32 1] 64)) (.slice (some ⟨w.heap.size, 0, none⟩) 1 1) (nat32 1) := by
  rw [show nat32 1 = [1] from nat32_lit [1] 1 (fun x hx => by obtain rfl := List.mem_singleton.1 hx; decide) (by decide) rfl]
  exact OwnQ.one .u32 w _ B hB 1 1 rfl

end rf
end Go.Proofs.YtpefjkndfifceaaDoor

namespace Go.Proofs.YtpefjkndfifceaaDoor.Oc
open Go.RowKit

theorem Tryd.info8 : (Tryd.prog.info? 5).map (fun i => (i.zero, i.size, i.bytes)) = some (some (.int .u8 0), 1, 1) := by kernel_rfl

def bareL (l : List UInt8) : List UInt8 := l.dropWhile (· == 0)

theorem bareL_step (l : List UInt8) (k : Nat) (hk : k < l.length) : bareL (l.drop k) = if (l[k]?.getD 0).toNat = 0 then bareL (l.drop (k + 1)) else l.drop k := by
  rw [List.drop_eq_getElem_cons hk]
  simp only [bareL, List.dropWhile_cons, List.getElem?_eq_getElem hk, Option.getD_some]
  by_cases h : l[k] = 0
  · simp [h]
  · have : ¬ l[k].toNat = 0 := fun e => h (UInt8.toNat_inj.1 (by simpa using e))
    simp [h, this]

/-- What is handed back reads as l, in memory that was there. -/
def RetsBts (w : World) (l : List UInt8) (e : Ending) : Prop := ∃ a cap, e = .returned (.slice a l.length cap) ∧ Bts w a l.length cap l

theorem RetsBts.mk {w : World} {l : List UInt8} {a : Option Addr} {len cap : Nat} (h : Bts w a len cap l) : RetsBts w l (.returned (.slice a len cap)) := by
  obtain rfl := h.length
  exact ⟨a, cap, rfl, h⟩

/-- What is handed back reads as l, in memory of the call's own. -/
def RetsOwn (B : Nat) (w' : World) (l : List UInt8) (e : Ending) : Prop := ∃ v, e = .returned v ∧ Own8 5 B w' v l

theorem RetsOwn.mono {B B' : Nat} {w' : World} {l : List UInt8} {e : Ending} (h : RetsOwn B w' l e) (hB : B' ≤ B) : RetsOwn B' w' l e := by
  obtain ⟨v, rfl, ho⟩ := h
  exact ⟨v, rfl, ho.mono hB⟩

theorem bareL_le (l : List UInt8) : (bareL l).length ≤ l.length := (List.dropWhile_sublist _).length_le

/-- 'twin': the bytes, in memory of the call's own, with a 7 behind them. -/
def RetsTwin (B : Nat) (w' : World) (l : List UInt8) (e : Ending) : Prop :=
  ∃ g cap, e = .returned (.slice (some ⟨g, 0, none⟩) l.length cap) ∧ l.length + 1 ≤ cap ∧ Own8 5 B w' (.slice (some ⟨g, 0, none⟩) (l.length + 1) cap) (l ++ [7])

theorem kept_str (l : List UInt8) : strOf l ++ ⟨#[7]⟩ = strOf (l ++ [7]) := by
  simp [strOf]
  rfl

end Go.Proofs.YtpefjkndfifceaaDoor.Oc

namespace Go.Proofs.YtpefjkndfifceaaDoor.Oc
open Go.RowKit

def wholeL (l : List UInt8) : Nat := l.foldl (fun n c => 256 * n + c.toNat) 0

theorem wholeL_snoc (l : List UInt8) (c : UInt8) : wholeL (l ++ [c]) = 256 * wholeL l + c.toNat := by simp [wholeL]

theorem take_snoc8 (l : List UInt8) (k : Nat) (hk : k < l.length) : l.take (k + 1) = l.take k ++ [l[k]?.getD 0] := by
  rw [List.take_add_one, List.getElem?_eq_getElem hk]; rfl

theorem wholeL_step (l : List UInt8) (k : Nat) (hk : k < l.length) : wholeL (l.take (k + 1)) = 256 * wholeL (l.take k) + (l[k]?.getD 0).toNat := by
  rw [take_snoc8 l k hk, wholeL_snoc]

theorem wholeL_lt (l : List UInt8) : wholeL l < 256 ^ l.length := by
  suffices h : ∀ (l : List UInt8) (n k : Nat), n < 256 ^ k → l.foldl (fun n c => 256 * n + c.toNat) n < 256 ^ (k + l.length) by
    simpa [wholeL] using h l 0 0 (by decide)
  intro l
  induction l with
  | nil => intro n k h; simpa using h
  | cons c l ih =>
    intro n k h
    have hc := UInt8.toNat_lt c
    have := ih (256 * n + c.toNat) (k + 1) (by rw [Nat.pow_succ]; omega)
    simpa [Nat.add_assoc, Nat.add_comm 1] using this

theorem wholeL_append (a b : List UInt8) : wholeL (a ++ b) = wholeL a * 256 ^ b.length + wholeL b := by
  suffices h : ∀ (b : List UInt8) (n : Nat), b.foldl (fun n c => 256 * n + c.toNat) n = n * 256 ^ b.length + b.foldl (fun n c => 256 * n + c.toNat) 0 by
    rw [wholeL, List.foldl_append, h]; rfl
  intro b
  induction b with
  | nil => intro n; simp
  | cons c b ih =>
    intro n
    rw [List.foldl_cons, ih, List.foldl_cons, ih (256 * 0 + c.toNat), List.length_cons, Nat.pow_succ]
    have : (256 * n + c.toNat) * 256 ^ b.length = n * (256 ^ b.length * 256) + (256 * 0 + c.toNat) * 256 ^ b.length := by
      rw [Nat.add_mul, Nat.mul_zero, Nat.zero_add, Nat.mul_comm 256 n, Nat.mul_assoc, Nat.mul_comm 256 (256 ^ b.length)]
    omega

theorem wholeL_bare (l : List UInt8) : wholeL (bareL l) = wholeL l := by
  induction l with
  | nil => rfl
  | cons c l ih =>
    rw [bareL, List.dropWhile_cons]
    by_cases h : c = 0
    · subst h
      rw [if_pos (by rfl)]
      rw [show List.dropWhile (fun x => x == 0) l = bareL l from rfl, ih]
      simp [wholeL]
    · rw [if_neg (by simpa using h)]

theorem wholeL_ge (c : UInt8) (l : List UInt8) (hc : c ≠ 0) : 256 ^ l.length ≤ wholeL (c :: l) := by
  have h := wholeL_append [c] l
  have h1 : wholeL [c] = c.toNat := by simp [wholeL]
  have h2 : c.toNat ≠ 0 := fun e => hc (UInt8.toNat_inj.1 (by simpa using e))
  rw [h1] at h
  have h3 : 1 * 256 ^ l.length ≤ c.toNat * 256 ^ l.length := Nat.mul_le_mul_right _ (by omega)
  rw [show [c] ++ l = c :: l from rfl] at h
  omega

theorem bareL_head (l : List UInt8) (c : UInt8) (m : List UInt8) (h : bareL l = c :: m) : c ≠ 0 := by
  intro e
  have := List.head?_dropWhile_not (fun x : UInt8 => x == 0) l
  rw [show List.dropWhile (fun x : UInt8 => x == 0) l = c :: m from h] at this
  simp [e] at this

theorem big_iff (l : List UInt8) : 8 < (bareL l).length ↔ 256 ^ 8 ≤ wholeL l := by
  rw [← wholeL_bare]
  constructor
  · intro h
    cases hb : bareL l with
    | nil => rw [hb] at h; simp at h
    | cons c m =>
      rw [hb] at h
      have h1 := wholeL_ge c m (bareL_head l c m hb)
      have h2 : 256 ^ 8 ≤ 256 ^ m.length := Nat.pow_le_pow_right (by decide) (by simp at h; omega)
      omega
  · intro h
    have h1 := wholeL_lt (bareL l)
    by_cases hc : 8 < (bareL l).length
    · exact hc
    · have h2 : 256 ^ (bareL l).length ≤ 256 ^ 8 := Nat.pow_le_pow_right (by decide) (by omega)
      omega

def wVal (l : List UInt8) : Int := if 8 < (bareL l).length then 0 else wholeL l
def wErr (l : List UInt8) : Int := if 8 < (bareL l).length then 10 else 0
def WholeIs (l : List UInt8) (e : Ending) : Prop := e = .returned (.tuple #[.int .u64 (wVal l), .int .i64 (wErr l)])

theorem WholeIs.big {l : List UInt8} (h : 8 < (bareL l).length) : WholeIs l (.returned (.tuple #[.int .u64 0, .int .i64 10])) := by simp [WholeIs, wVal, wErr, h]
theorem WholeIs.fits {l : List UInt8} {n : Nat} (h : ¬ 8 < (bareL l).length) (hn : n = wholeL l) : WholeIs l (.returned (.tuple #[.int .u64 (n : Int), .int .i64 0])) := by simp [WholeIs, wVal, wErr, h, hn]

theorem or8 (v x : Nat) (hv : v ≤ 72057594037927935) (hx : x < 256) : bits BinOp.or IntKind.u64 ((v : Int) * 256) (x : Int) = ((256 * v + x : Nat) : Int) := by
  rw [show ((v : Int) * 256) = ((v * 256 : Nat) : Int) from by omega, u64_or_nat _ _ (by omega) (by omega), nat_join 8 _ _ (by omega) (by omega)]
  omega

theorem wrap8 (v x : Nat) (hv : v ≤ 72057594037927935) (hx : x < 256) : IntKind.u64.wrap (IntKind.u64.wrap (256 * (v : Int)) + (x : Int)) = ((256 * v + x : Nat) : Int) := by
  simp only [IntKind.wrap, IntKind.bits, IntKind.signed]
  simp
  omega

end Go.Proofs.YtpefjkndfifceaaDoor.Oc

namespace Go.Proofs.YtpefjkndfifceaaDoor.Oc
set_option maxRecDepth 100000
open Go.RowKit

/-- The lowest bytes of a number, so many, the highest first. -/
def bigL (n : Nat) : Nat → List UInt8
  | 0 => []
  | k + 1 => UInt8.ofNat (n / 256 ^ k % 256) :: bigL n k

theorem bigL_length (n k : Nat) : (bigL n k).length = k := by induction k <;> simp [bigL, *]

theorem set_zero_big (n m j : Nat) (hj : j < m) : (List.replicate (m - j) (0 : UInt8) ++ bigL n j).set (m - j - 1) (UInt8.ofNat (n / 256 ^ j % 256)) = List.replicate (m - (j + 1)) (0 : UInt8) ++ bigL n (j + 1) := by
  obtain ⟨d, rfl⟩ : ∃ d, m = d + j + 1 := ⟨m - j - 1, by omega⟩
  rw [show d + j + 1 - j = d + 1 from by omega, show d + 1 - 1 = d from by omega, show d + j + 1 - (j + 1) = d from by omega, List.replicate_succ', List.append_assoc]
  rw [List.set_append_right _ _ (by simp)]
  simp [bigL]

/-- What is handed back with an error's number: it reads as l, in memory of the call's own. -/
def RetsOwn2 (B : Nat) (w' : World) (r : List UInt8 × Int) (e : Ending) : Prop := ∃ v, e = .returned (.tuple #[v, .int .i64 r.2]) ∧ Own8 5 B w' v r.1

def bigR (n : Nat) (s : Int) : List UInt8 × Int := if 0 ≤ s ∧ s ≤ 65536 then (if n < 256 ^ s.toNat then (bigL n s.toNat, 0) else ([], 10)) else ([], 2)

theorem div_pow (n j : Nat) : n / 256 ^ j / 256 = n / 256 ^ (j + 1) := by rw [Nat.div_div_eq_div_mul, Nat.pow_succ]

def padR (l : List UInt8) (s : Int) : List UInt8 × Int := if 0 ≤ s ∧ s ≤ 65536 then (if (bareL l).length ≤ s.toNat then (List.replicate (s.toNat - (bareL l).length) 0 ++ bareL l, 0) else ([], 10)) else ([], 2)

theorem padR_no {l : List UInt8} {s : Int} (h : ¬ (0 ≤ s ∧ s ≤ 65536)) : padR l s = ([], 2) := by rw [padR, if_neg h]
theorem padR_long {l : List UInt8} {m : Nat} (h : m ≤ 65536) (h2 : m < (bareL l).length) : padR l m = ([], 10) := by rw [padR, if_pos ⟨by omega, by omega⟩, if_neg (by simp; omega)]
theorem padR_yes {l : List UInt8} {m : Nat} (h : m ≤ 65536) (h2 : (bareL l).length ≤ m) : padR l m = (List.replicate (m - (bareL l).length) 0 ++ bareL l, 0) := by rw [padR, if_pos ⟨by omega, by omega⟩, if_pos (by simpa using h2)]; simp

end Go.Proofs.YtpefjkndfifceaaDoor.Oc

namespace Go.Proofs.YtpefjkndfifceaaDoor
open Go.RowKit
set_option maxRecDepth 100000

theorem byte_small {l : List Nat} (hb : Byt l) (h : l.length ≤ 1024) : valB 256 l.reverse < topN := by
  have h1 := valB_lt (b := 256) (by decide) (l := l.reverse) (fun x hx => hb x (List.mem_reverse.1 hx))
  rw [List.length_reverse] at h1
  exact top_of topN_256 h h1
/-- Bytes raised by a power. -/
def raiseV (N B Y : List Nat) : List UInt8 × Int := if nV B < nV N then Oc.padR (u8s (natB 256 (nV B ^ nV Y % nV N)).reverse) (N.length : Int) else ([], 101)

end Go.Proofs.YtpefjkndfifceaaDoor

namespace Go.Proofs.YtpefjkndfifceaaDoor
open Go.RowKit
set_option maxRecDepth 100000

theorem two_top {j k : Nat} (hj : topM = 2 ^ j) (hk : k ≤ j) {n : Nat} (h : n < 2 ^ k) : n < topM := by
  rw [hj]
  exact Nat.lt_of_lt_of_le h (Nat.pow_le_pow_right (show 0 < 2 by decide) hk)
theorem topM_2 {j : Nat} (hj : j = 4096) : topM = 2 ^ j := by
  have h : ∀ a b c d e : Nat, a = b ^ c → e = c * d → a ^ d = b ^ e := by
    rintro a b c d e rfl rfl
    exact (Nat.pow_mul b c d).symm
  exact h 4294967296 2 32 128 j (by decide) (by omega)
theorem pub_mod {N E : List Nat} (h : PubP N E) : Mod3 (nV N) := by
  obtain ⟨-, -, h1, h2, -, -, h3, -, -⟩ := h
  refine ⟨two_top (topM_2 rfl) (Nat.le_refl _) ((bitsN_le (nV N) 4096).1 h2), ?_, ?_⟩
  · by_cases h4 : 3 ≤ nV N
    · exact h4
    · have h5 := (bitsN_le (nV N) 2).2 (by omega)
      omega
  · rw [Nat.testBit_zero] at h3
    exact of_decide_eq_true h3
open Classical in
noncomputable def rRaise (N E B : List Nat) : List UInt8 × Int := if PubP N E then raiseV N B E else ([], 100)
open Classical in
noncomputable def rLower (N E D B : List Nat) : List UInt8 × Int := if PrivP N E D then raiseV N B D else ([], 100)

end Go.Proofs.YtpefjkndfifceaaDoor

namespace Go.Proofs.YtpefjkndfifceaaDoor.Oc
open Go.RowKit

abbrev Row2 := Option Addr × Nat × Nat × List UInt8

/-- All bytes of the first k rows. -/
def joined (L : List Row2) : List UInt8 := L.flatMap (·.2.2.2)

theorem joined_step (L : List Row2) (k : Nat) (hk : k < L.length) : joined (L.take (k + 1)) = joined (L.take k) ++ (L[k]?.getD (none, 0, 0, [])).2.2.2 := by
  have e : L.take (k + 1) = L.take k ++ [L[k]] := by rw [List.take_add_one, List.getElem?_eq_getElem hk]; rfl
  rw [e, List.getElem?_eq_getElem hk]
  unfold joined
  rw [List.flatMap_append, List.flatMap_singleton]
  rfl

theorem joined_le (L : List Row2) (k : Nat) : (joined (L.take k)).length ≤ (joined L).length := by
  have e : (joined L).length = (joined (L.take k ++ L.drop k)).length := by rw [List.take_append_drop]
  unfold joined at *
  rw [List.flatMap_append, List.length_append] at e
  omega

/-- A list of slices that has just been laid. -/
theorem rows2_lit2 (w : World) (T : TypeId) (a1 a2 : Option Addr) (n1 c1 n2 c2 : Nat) (l1 l2 : List UInt8) (h1 : Bts w a1 n1 c1 l1) (h2 : Bts w a2 n2 c2 l2) :
    Rows2 (w.alloc (.cells #[.slice a1 n1 c1, .slice a2 n2 c2] T)) (some ⟨w.heap.size, 0, none⟩) 2 2 [(a1, n1, c1, l1), (a2, n2, c2, l2)] := by
  refine ⟨rfl, by unfold maxLen; omega, fun _ => ⟨w.heap.size, 0, rfl, by simp, fun i hi => ?_⟩, fun x hx => ?_⟩
  · rw [World.cell?_alloc_at _ _ _ _ rfl]
    match i, hi with
    | 0, _ => rfl
    | 1, _ => rfl
  · have hb : Below w.heap.size w (w.alloc (.cells #[.slice a1 n1 c1, .slice a2 n2 c2] T)) := (Below.refl _ _).alloc (Nat.le_refl _) _
    rcases List.mem_cons.1 hx with rfl | hx
    · exact h1.below hb
    · obtain rfl := List.mem_singleton.1 hx
      exact h2.below hb

theorem bigL_val (n k : Nat) : wholeL (bigL n k) = n % 256 ^ k := by
  induction k with
  | zero => simp [bigL, wholeL, Nat.mod_one]
  | succ k ih =>
    have h := wholeL_append [UInt8.ofNat (n / 256 ^ k % 256)] (bigL n k)
    rw [show [UInt8.ofNat (n / 256 ^ k % 256)] ++ bigL n k = bigL n (k + 1) from rfl, bigL_length, ih] at h
    have h1 : wholeL [UInt8.ofNat (n / 256 ^ k % 256)] = n / 256 ^ k % 256 := by simp [wholeL, UInt8.toNat_ofNat']
    rw [h, h1, Nat.pow_succ, Nat.mod_mul, Nat.mul_comm]
    omega

theorem wholeL_inj : ∀ (l m : List UInt8), l.length = m.length → wholeL l = wholeL m → l = m
  | [], [], _, _ => rfl
  | [], _ :: _, h, _ => by simp at h
  | _ :: _, [], h, _ => by simp at h
  | c :: l, d :: m, h, e => by
    have hl : l.length = m.length := by simpa using h
    have h1 := wholeL_append [c] l
    have h2 := wholeL_append [d] m
    have h3 : wholeL [c] = c.toNat := by simp [wholeL]
    have h4 : wholeL [d] = d.toNat := by simp [wholeL]
    have h5 := wholeL_lt l
    have h6 := wholeL_lt m
    rw [show [c] ++ l = c :: l from rfl, h3] at h1
    rw [show [d] ++ m = d :: m from rfl, h4, ← e, h1, ← hl] at h2
    rw [← hl] at h6
    have hp : 0 < 256 ^ l.length := Nat.pow_pos (by decide)
    have hcd : c.toNat = d.toNat := by
      have a1 := congrArg (· / 256 ^ l.length) h2
      simp only [Nat.mul_comm _ (256 ^ l.length), Nat.mul_add_div hp, Nat.div_eq_of_lt h5, Nat.div_eq_of_lt h6] at a1
      omega
    obtain rfl := UInt8.toNat_inj.1 hcd
    rw [wholeL_inj l m hl (by omega)]

theorem wholeL_zeros (k : Nat) (l : List UInt8) : wholeL (List.replicate k 0 ++ l) = wholeL l := by
  have h : wholeL (List.replicate k 0) = 0 := by
    induction k with
    | zero => rfl
    | succ k ih => rw [List.replicate_succ', wholeL_snoc, ih]; rfl
  rw [wholeL_append, h]
  omega

theorem bare_len_iff (l : List UInt8) (k : Nat) : (bareL l).length ≤ k ↔ wholeL l < 256 ^ k := by
  rw [← wholeL_bare]
  constructor
  · intro h
    exact Nat.lt_of_lt_of_le (wholeL_lt _) (Nat.pow_le_pow_right (by decide) h)
  · intro h
    cases hb : bareL l with
    | nil => simp
    | cons c m =>
      rw [hb] at h
      have h1 := wholeL_ge c m (bareL_head l c m hb)
      have h2 : 256 ^ m.length < 256 ^ k := by omega
      have := (Nat.pow_lt_pow_iff_right (by decide : 1 < 256)).1 h2
      simp
      omega

/-- A number's bytes are the padded bytes of its eight. -/
theorem padR_big (n : Nat) (s : Int) (hn : n < 256 ^ 8) : padR (bigL n 8) s = bigR n s := by
  unfold padR bigR
  by_cases hs : 0 ≤ s ∧ s ≤ 65536
  · rw [if_pos hs, if_pos hs]
    have hv : wholeL (bigL n 8) = n := by rw [bigL_val, Nat.mod_eq_of_lt hn]
    have hiff := bare_len_iff (bigL n 8) s.toNat
    rw [hv] at hiff
    by_cases hf : n < 256 ^ s.toNat
    · rw [if_pos hf, if_pos (hiff.2 hf)]
      congr 1
      apply wholeL_inj
      · have := hiff.2 hf
        simp [bigL_length]
        omega
      · rw [wholeL_zeros, wholeL_bare, hv, bigL_val, Nat.mod_eq_of_lt hf]
    · rw [if_neg hf, if_neg (fun h => hf (hiff.1 h))]
  · rw [if_neg hs, if_neg hs]

theorem wrap_div (v : Nat) (h : v < 256 ^ 8) : IntKind.u64.wrap ((v : Int) / 256) = ((v / 256 : Nat) : Int) := by
  simp only [IntKind.wrap, IntKind.bits, IntKind.signed]
  simp
  omega

end Go.Proofs.YtpefjkndfifceaaDoor.Oc

namespace Go.Proofs.YtpefjkndfifceaaDoor
open Go.RowKit
set_option maxRecDepth 100000

theorem results_cell1 {fn : Func} {p : Tmp} {ty : TypeId} (h : fn.results = #[.cell p ty]) (tmps : Array Value) (P : Program) (w : World) :
    (results fn tmps).run P w = ((asAddr (tmps.getD p undef)).run P w).andThen fun a w₁ => (loadVar ty a).run P w₁ := by
  simp [results, h]
theorem half_cells {X : World} {P : Nat} {c0 c1 : Value} {t : TypeId} (h : X.heap[P]? = some (.cells #[c0, c1] t)) : X.cell? ⟨P, 0, none⟩ = some c0 ∧ X.cell? ⟨P, 1, none⟩ = some c1 := by
  simp [World.cell?, h]
end Go.Proofs.YtpefjkndfifceaaDoor

set_option linter.unusedVariables false
namespace Go.Proofs.YtpefjkndfifceaaDoor
set_option maxRecDepth 100000
namespace LL
/-- Powers of 2 + √3: whole and root part. -/
def XY : Nat → Int × Int
  | 0 => (1, 0)
  | n + 1 => (2 * (XY n).1 + 3 * (XY n).2, (XY n).1 + 2 * (XY n).2)
theorem xy_add (m n : Nat) : (XY (m + n)).1 = (XY m).1 * (XY n).1 + 3 * ((XY m).2 * (XY n).2) ∧ (XY (m + n)).2 = (XY m).1 * (XY n).2 + (XY m).2 * (XY n).1 := by
  induction n with
  | zero => simp [XY]
  | succ n ih =>
    obtain ⟨h1, h2⟩ := ih
    rw [← Nat.add_assoc]
    simp only [XY, h1, h2]
    constructor <;> grind
theorem xy_norm (n : Nat) : (XY n).1 * (XY n).1 - 3 * ((XY n).2 * (XY n).2) = 1 := by
  induction n with
  | zero => simp [XY]
  | succ n ih => simp only [XY]; grind
/-- n is a period by q. -/
def Per (q : Int) (n : Nat) : Prop := q ∣ (XY n).1 - 1 ∧ q ∣ (XY n).2
theorem Per.zero (q : Int) : Per q 0 := by simp [Per, XY]
theorem Per.add {q : Int} {m n : Nat} (h : Per q m) (k : Per q n) : Per q (m + n) := by
  obtain ⟨⟨a, ha⟩, ⟨b, hb⟩⟩ := h
  obtain ⟨⟨c, hc⟩, ⟨d, hd⟩⟩ := k
  obtain ⟨h1, h2⟩ := xy_add m n
  have e1 : (XY m).1 = q * a + 1 := by omega
  have e2 : (XY n).1 = q * c + 1 := by omega
  refine ⟨⟨q * a * c + a + c + 3 * (b * (q * d)), ?_⟩, ⟨(q * a + 1) * d + b * (q * c + 1), ?_⟩⟩
  · rw [h1, e1, e2, hb, hd]; grind
  · rw [h2, e1, e2, hb, hd]; grind
theorem Per.mul {q : Int} {m : Nat} (h : Per q m) (k : Nat) : Per q (m * k) := by
  induction k with
  | zero => exact Per.zero q
  | succ k ih => exact ih.add h
/-- Two places with the same rests: what lies between is a period. -/
theorem Per.of_same {q : Int} {i d : Nat} (h1 : q ∣ (XY (i + d)).1 - (XY i).1) (h2 : q ∣ (XY (i + d)).2 - (XY i).2) : Per q d := by
  obtain ⟨a, ha⟩ := h1
  obtain ⟨b, hb⟩ := h2
  obtain ⟨e1, e2⟩ := xy_add i d
  have n := xy_norm i
  refine ⟨⟨(XY i).1 * a - 3 * ((XY i).2 * b), ?_⟩, ⟨(XY i).1 * b - (XY i).2 * a, ?_⟩⟩ <;> grind
theorem Per.sub {q : Int} {m d : Nat} (h : Per q m) (k : Per q (m + d)) : Per q d := by
  refine Per.of_same (i := m) ?_ ?_
  · obtain ⟨a, ha⟩ := h.1
    obtain ⟨b, hb⟩ := k.1
    exact ⟨b - a, by grind⟩
  · obtain ⟨a, ha⟩ := h.2
    obtain ⟨b, hb⟩ := k.2
    exact ⟨b - a, by grind⟩
theorem Per.gcd {q : Int} (m n : Nat) (h : Per q m) (k : Per q n) : Per q (Nat.gcd m n) := by
  induction m, n using Nat.gcd.induction with
  | H0 n => simpa using k
  | H1 m n hm ih =>
    rw [Nat.gcd_rec]
    refine ih ?_ h
    have e := Nat.div_add_mod n m
    exact (h.mul (n / m)).sub (by rw [e]; exact k)
theorem two_half {d k : Nat} (hd : 0 < d) (hk : d < 2 ^ (k + 1)) : Nat.gcd d (2 ^ (k + 1)) ∣ 2 ^ k := by
  obtain ⟨h, hh⟩ := Nat.gcd_dvd_right d (2 ^ (k + 1))
  have hg : Nat.gcd d (2 ^ (k + 1)) ≤ d := Nat.le_of_dvd hd (Nat.gcd_dvd_left d _)
  generalize Nat.gcd d (2 ^ (k + 1)) = g at *
  rcases Nat.mod_two_eq_zero_or_one h with h2 | h2
  · refine ⟨h / 2, ?_⟩
    have e : h = 2 * (h / 2) := by omega
    rw [Nat.pow_succ] at hh
    have : 2 ^ k * 2 = (g * (h / 2)) * 2 := by rw [hh, Nat.mul_assoc]; congr 1; omega
    exact Nat.eq_of_mul_eq_mul_right (by decide) this
  · have hc : Nat.Coprime h (2 ^ (k + 1)) := by
      refine Nat.Coprime.pow_right _ ?_
      rw [Nat.coprime_comm, Nat.Coprime, Nat.gcd_rec, h2]
      decide
    have h1 : h ∣ 1 := by
      have : h ∣ Nat.gcd h (2 ^ (k + 1)) := Nat.dvd_gcd (Nat.dvd_refl h) ⟨g, by rw [hh, Nat.mul_comm]⟩
      rw [hc] at this
      exact this
    have : h = 1 := Nat.dvd_one.1 h1
    subst this
    rw [Nat.mul_one] at hh
    omega
theorem pigeon (n : Nat) : ∀ f : Nat → Nat, (∀ i, i ≤ n → f i < n) → ∃ i j, i < j ∧ j ≤ n ∧ f i = f j := by
  induction n with
  | zero => intro f h; exact absurd (h 0 (Nat.le_refl _)) (by omega)
  | succ n ih =>
    intro f h
    by_cases hx : ∃ i, i ≤ n ∧ f i = f (n + 1)
    · obtain ⟨i, hi, e⟩ := hx
      exact ⟨i, n + 1, by omega, by omega, e⟩
    · have hne : ∀ i, i ≤ n → f i ≠ f (n + 1) := fun i hi e => hx ⟨i, hi, e⟩
      obtain ⟨i, j, h1, h2, h3⟩ := ih (fun i => if f i = n then f (n + 1) else f i) (fun i hi => by
        have h1 := h i (by omega)
        have h2 := h (n + 1) (by omega)
        have h3 := hne i hi
        skip
        split <;> omega)
      refine ⟨i, j, h1, by omega, ?_⟩
      have a := hne i (by omega)
      have b := hne j h2
      skip
      split at h3 <;> split at h3 <;> omega
/-- No divisor of a number by which 2^k is half a period and whose square is below. -/
theorem no_small {q k : Nat} (hq : 2 < q) (hk : (q : Int) ∣ (XY (2 ^ k)).1 + 1) (hy : (q : Int) ∣ (XY (2 ^ k)).2) : 2 ^ (k + 1) ≤ q * q := by
  refine Nat.le_of_not_lt fun hlt => ?_
  have hpos : (0 : Int) < q := by omega
  have half : ¬ Per q (2 ^ k) := fun h => by
    obtain ⟨a, ha⟩ := h.1
    obtain ⟨b, hb⟩ := hk
    have : (q : Int) ∣ 2 := ⟨b - a, by grind⟩
    have := Int.le_of_dvd (by decide) this
    omega
  have full : Per q (2 ^ (k + 1)) := by
    rw [Nat.pow_succ, Nat.mul_two]
    obtain ⟨h1, h2⟩ := xy_add (2 ^ k) (2 ^ k)
    obtain ⟨a, ha⟩ := hk
    obtain ⟨b, hb⟩ := hy
    have e : (XY (2 ^ k)).1 = q * a - 1 := by omega
    refine ⟨⟨q * a * a - 2 * a + 3 * (b * (q * b)), ?_⟩, ⟨(q * a - 1) * b + b * (q * a - 1), ?_⟩⟩
    · rw [h1, e, hb]; grind
    · rw [h2, e, hb]; grind
  have rest : ∀ x : Int, (x % q).toNat < q ∧ ((x % q).toNat : Int) = x % q := fun x => by
    have := Int.emod_nonneg x (show (q : Int) ≠ 0 by omega)
    have := Int.emod_lt_of_pos x hpos
    omega
  obtain ⟨i, j, hij, hj, e⟩ := pigeon (q * q) (fun i => ((XY i).1 % q).toNat * q + ((XY i).2 % q).toNat) (fun i _ => by
    have h1 := (rest (XY i).1).1
    have h2 := (rest (XY i).2).1
    have := Nat.mul_le_mul_right q (show ((XY i).1 % q).toNat + 1 ≤ q by omega)
    rw [Nat.add_mul, Nat.one_mul] at this
    skip
    omega)
  skip
  obtain ⟨d, rfl⟩ : ∃ d, j = i + d := ⟨j - i, by omega⟩
  have pair : ∀ a b c d q : Nat, b < q → d < q → a * q + b = c * q + d → a = c ∧ b = d := fun a b c d q h1 h2 h => by
    have e1 := congrArg (· / q) h
    have e2 := congrArg (· % q) h
    have hq : 0 < q := by omega
    rw [Nat.mul_comm a, Nat.mul_comm c, Nat.mul_add_div hq, Nat.mul_add_div hq, Nat.div_eq_of_lt h1, Nat.div_eq_of_lt h2] at e1
    rw [Nat.mul_comm a, Nat.mul_comm c, Nat.mul_add_mod, Nat.mul_add_mod, Nat.mod_eq_of_lt h1, Nat.mod_eq_of_lt h2] at e2
    exact ⟨by simpa using e1, e2⟩
  obtain ⟨e1, e2⟩ := pair _ _ _ _ _ (rest _).1 (rest _).1 e
  have same : ∀ x y : Int, (x % q).toNat = (y % q).toNat → (q : Int) ∣ y - x := fun x y h => by
    have h1 := (rest x).2
    have h2 := (rest y).2
    exact Int.dvd_of_emod_eq_zero (Int.emod_eq_emod_iff_emod_sub_eq_zero.1 (by omega))
  have hd : Per q d := Per.of_same (same _ _ e1) (same _ _ e2)
  have hg := hd.gcd _ _ full
  obtain ⟨c, hc⟩ := two_half (show 0 < d by omega) (show d < 2 ^ (k + 1) by omega)
  rw [hc] at half
  exact half (hg.mul c)
/-- The sequence of Lucas and Lehmer. -/
def ll (M : Nat) : Nat → Nat
  | 0 => 4
  | n + 1 => (ll M n * ll M n + (M - 2)) % M
theorem ll_is {M : Nat} (hM : 2 ≤ M) (n : Nat) : (M : Int) ∣ (ll M n : Int) - 2 * (XY (2 ^ n)).1 := by
  induction n with
  | zero => exact ⟨0, by simp [ll, XY]⟩
  | succ n ih =>
    obtain ⟨a, ha⟩ := ih
    have h1 := (xy_add (2 ^ n) (2 ^ n)).1
    have h2 := xy_norm (2 ^ n)
    rw [Nat.pow_succ, Nat.mul_two]
    have e : ((ll M (n + 1) : Nat) : Int) = (ll M n : Int) * ll M n + (M - 2) - M * (((ll M n * ll M n + (M - 2) : Nat) / M : Nat) : Int) := by
      have := Nat.div_add_mod (ll M n * ll M n + (M - 2)) M
      have hd : ll M (n + 1) = (ll M n * ll M n + (M - 2)) % M := rfl
      rw [hd]
      have h3 : ((M * ((ll M n * ll M n + (M - 2)) / M) + (ll M n * ll M n + (M - 2)) % M : Nat) : Int) = ((ll M n * ll M n + (M - 2) : Nat) : Int) := by rw [this]
      rw [Int.natCast_add, Int.natCast_mul, Int.natCast_add, Int.natCast_mul, show ((M - 2 : Nat) : Int) = (M : Int) - 2 by omega] at h3
      omega
    generalize ((ll M n * ll M n + (M - 2)) / M : Nat) = t at e
    rw [e]
    refine ⟨a * (ll M n + 2 * (XY (2 ^ n)).1) + 1 - t, ?_⟩
    grind
/-- A prime. -/
def Pr (p : Nat) : Prop := 1 < p ∧ ∀ d, d ∣ p → d = 1 ∨ d = p
theorem prime_ll {M k : Nat} (hM : M + 1 = 2 ^ (k + 2)) (h : ll M k = 0) : Pr M := by
  have h4 : 4 ≤ 2 ^ (k + 2) := Nat.pow_le_pow_right (show 0 < 2 by decide) (show 2 ≤ k + 2 by omega)
  have hodd : M % 2 = 1 := by
    rw [Nat.pow_succ] at hM
    omega
  obtain ⟨a, ha⟩ := ll_is (M := M) (by omega) k
  rw [h] at ha
  have hx : ∀ q : Nat, q ∣ M → (q : Int) ∣ (XY (2 ^ k)).1 := fun q hq => by
    have h2 : q ∣ 2 * (XY (2 ^ k)).1.natAbs := by
      obtain ⟨b, hb⟩ := hq
      have : (q : Int) ∣ 2 * (XY (2 ^ k)).1 := ⟨-(b * a), by rw [hb] at ha; grind⟩
      have := Int.natAbs_dvd_natAbs.2 this
      rwa [Int.natAbs_mul, Int.natAbs_natCast] at this
    have hc : Nat.Coprime q 2 := by
      have h3 : Nat.gcd q 2 ∣ 2 := Nat.gcd_dvd_right _ _
      have h4 : Nat.gcd q 2 ∣ M := Nat.dvd_trans (Nat.gcd_dvd_left _ _) hq
      have h5 := Nat.le_of_dvd (by decide) h3
      have h6 : Nat.gcd q 2 ≠ 0 := fun e => by rw [e] at h3; simp at h3
      have h7 : Nat.gcd q 2 ≠ 2 := fun e => by rw [e] at h4; omega
      show Nat.gcd q 2 = 1
      omega
    have := hc.dvd_of_dvd_mul_left h2
    exact Int.natAbs_dvd_natAbs.1 (by simpa using this)
  have big : ∀ q : Nat, q ∣ M → 1 < q → 2 ^ (k + 2) ≤ q * q := fun q hq h1 => by
    have hq2 : q ≠ 2 := fun e => by rw [e] at hq; omega
    obtain ⟨c, hc⟩ := hx q hq
    obtain ⟨e1, e2⟩ := xy_add (2 ^ k) (2 ^ k)
    have n := xy_norm (2 ^ k)
    refine no_small (k := k + 1) (by omega) ?_ ?_
    · rw [Nat.pow_succ, Nat.mul_two, e1]
      exact ⟨2 * c * (XY (2 ^ k)).1, by grind⟩
    · rw [Nat.pow_succ, Nat.mul_two, e2]
      exact ⟨2 * (c * (XY (2 ^ k)).2), by grind⟩
  refine ⟨by omega, fun d hd => ?_⟩
  obtain ⟨e, he⟩ := hd
  have hd0 : d ≠ 0 := fun h => by rw [h] at he; omega
  have he0 : e ≠ 0 := fun h => by rw [h] at he; omega
  by_cases hd1 : d = 1
  · exact .inl hd1
  by_cases he1 : e = 1
  · right; rw [he, he1, Nat.mul_one]
  exfalso
  have b1 := big d ⟨e, he⟩ (by omega)
  have b2 := big e ⟨d, by rw [he, Nat.mul_comm]⟩ (by omega)
  rcases Nat.le_total d e with h | h
  · have := Nat.mul_le_mul_left d h
    omega
  · have := Nat.mul_le_mul_right e h
    omega
/-- The sequence, by steps. -/
def llGo (M : Nat) : Nat → Nat → Nat
  | 0, s => s
  | n + 1, s => llGo M n ((s * s + (M - 2)) % M)
theorem llGo_eq (M : Nat) : ∀ n m, llGo M n (ll M m) = ll M (m + n) := by
  intro n
  induction n with
  | zero => intro m; rfl
  | succ n ih => intro m; rw [show m + (n + 1) = (m + 1) + n by omega, ← ih]; rfl
theorem p61 : llGo (2 ^ 61 - 1) 59 4 = 0 := by decide +kernel
theorem p521 : llGo (2^521-1) 519 4 = 0 := by decide +kernel
theorem p607 : llGo (2^607-1) 605 4 = 0 := by decide +kernel
/-- How many ways to choose. -/
def Ch : Nat → Nat → Nat
  | _, 0 => 1
  | 0, _ + 1 => 0
  | n + 1, k + 1 => Ch n k + Ch n (k + 1)
theorem ch_mul (n k : Nat) : (k + 1) * Ch (n + 1) (k + 1) = (n + 1) * Ch n k := by
  induction n generalizing k with
  | zero => cases k <;> simp [Ch]
  | succ n ih =>
    cases k with
    | zero =>
      have := ih 0
      simp only [Ch] at this ⊢
      grind
    | succ k =>
      have h1 := ih k
      have h2 := ih (k + 1)
      have e1 : Ch (n + 1 + 1) (k + 1 + 1) = Ch (n + 1) (k + 1) + Ch (n + 1) (k + 1 + 1) := rfl
      have e2 : Ch (n + 1) (k + 1) = Ch n k + Ch n (k + 1) := rfl
      rw [e1]
      grind
theorem ch_big (n : Nat) : ∀ k, n < k → Ch n k = 0 := by
  induction n with
  | zero => intro k h; cases k with | zero => omega | succ k => rfl
  | succ n ih => intro k h; cases k with | zero => omega | succ k => simp only [Ch]; rw [ih k (by omega), ih (k + 1) (by omega)]
theorem ch_self (n : Nat) : Ch n n = 1 := by
  induction n with
  | zero => rfl
  | succ n ih => simp only [Ch]; rw [ih, ch_big n (n + 1) (by omega)]
/-- A sum of the first ones. -/
def sumTo (f : Nat → Nat) : Nat → Nat
  | 0 => 0
  | n + 1 => sumTo f n + f n
theorem sumTo_add (f g : Nat → Nat) (n : Nat) : sumTo (fun i => f i + g i) n = sumTo f n + sumTo g n := by
  induction n with
  | zero => rfl
  | succ n ih => simp only [sumTo]; rw [ih]; omega
theorem sumTo_mul (f : Nat → Nat) (c n : Nat) : sumTo (fun i => c * f i) n = c * sumTo f n := by
  induction n with
  | zero => rfl
  | succ n ih => simp only [sumTo]; rw [ih]; grind
theorem sumTo_first (f : Nat → Nat) (n : Nat) : sumTo f (n + 1) = f 0 + sumTo (fun i => f (i + 1)) n := by
  induction n with
  | zero => simp [sumTo]
  | succ n ih => rw [sumTo, ih]; simp only [sumTo]; omega
theorem sumTo_congr (f g : Nat → Nat) (n : Nat) (h : ∀ i, i < n → f i = g i) : sumTo f n = sumTo g n := by
  induction n with
  | zero => rfl
  | succ n ih => simp only [sumTo]; rw [ih (fun i hi => h i (by omega)), h n (by omega)]
theorem sumTo_dvd (f : Nat → Nat) (p n : Nat) (h : ∀ i, i < n → p ∣ f i) : p ∣ sumTo f n := by
  induction n with
  | zero => exact ⟨0, rfl⟩
  | succ n ih => exact Nat.dvd_add (ih fun i hi => h i (by omega)) (h n (by omega))
theorem binom (x n : Nat) : (x + 1) ^ n = sumTo (fun k => Ch n k * x ^ k) (n + 1) := by
  induction n with
  | zero => simp [sumTo, Ch]
  | succ n ih =>
    rw [Nat.pow_succ, ih, sumTo_first _ (n + 1)]
    have e : sumTo (fun i => Ch (n + 1) (i + 1) * x ^ (i + 1)) (n + 1) = x * sumTo (fun k => Ch n k * x ^ k) (n + 1) + sumTo (fun i => Ch n (i + 1) * x ^ (i + 1)) (n + 1) := by
      rw [← sumTo_mul, ← sumTo_add]
      refine sumTo_congr _ _ _ fun i _ => ?_
      simp only [Ch, Nat.pow_succ]
      grind
    rw [e]
    have e2 : sumTo (fun k => Ch n k * x ^ k) (n + 1) + Ch n (n + 1) * x ^ (n + 1) = Ch n 0 * x ^ 0 + sumTo (fun i => Ch n (i + 1) * x ^ (i + 1)) (n + 1) := by
      rw [← sumTo_first (fun k => Ch n k * x ^ k)]
      rfl
    rw [ch_big n (n + 1) (by omega)] at e2
    have e3 : Ch (n + 1) 0 * x ^ 0 = Ch n 0 * x ^ 0 := by cases n <;> rfl
    rw [e3]
    generalize sumTo (fun k => Ch n k * x ^ k) (n + 1) = S at *
    generalize sumTo (fun i => Ch n (i + 1) * x ^ (i + 1)) (n + 1) = T at *
    generalize Ch n 0 * x ^ 0 = U at *
    grind
theorem Pr.coprime {p a : Nat} (hp : Pr p) (h : ¬ p ∣ a) : Nat.Coprime p a := by
  rcases hp.2 (Nat.gcd p a) (Nat.gcd_dvd_left _ _) with e | e
  · exact e
  · exact absurd (by rw [← e]; exact Nat.gcd_dvd_right _ _) h
theorem Pr.ch {p k : Nat} (hp : Pr p) (h0 : 0 < k) (hk : k < p) : p ∣ Ch p k := by
  obtain ⟨k, rfl⟩ : ∃ j, k = j + 1 := ⟨k - 1, by omega⟩
  have h1 := hp.1
  obtain ⟨n, rfl⟩ : ∃ n, p = n + 1 := ⟨p - 1, by omega⟩
  have hc : Nat.Coprime (n + 1) (k + 1) := hp.coprime fun h => by have := Nat.le_of_dvd (by omega) h; omega
  exact hc.dvd_of_dvd_mul_left (m := k + 1) ⟨Ch n k, ch_mul n k⟩
theorem fermat {p : Nat} (hp : Pr p) (x : Nat) : x ^ p % p = x % p := by
  have h1 := hp.1
  induction x with
  | zero => rw [Nat.zero_pow (by omega)]
  | succ x ih =>
    rw [binom, sumTo]
    obtain ⟨n, rfl⟩ : ∃ n, p = n + 1 := ⟨p - 1, by omega⟩
    rw [sumTo_first, ch_self, Nat.one_mul]
    obtain ⟨c, hc⟩ := sumTo_dvd (fun i => Ch (n + 1) (i + 1) * x ^ (i + 1)) (n + 1) n fun i hi => Nat.dvd_trans (hp.ch (by omega) (by omega)) (Nat.dvd_mul_right _ _)
    rw [hc]
    have e : Ch (n + 1) 0 * x ^ 0 = 1 := by simp [Ch]
    rw [e, show 1 + (n + 1) * c + x ^ (n + 1) = (x ^ (n + 1) + 1) + (n + 1) * c by omega, Nat.add_mul_mod_self_left, Nat.add_mod, ih, ← Nat.add_mod]
theorem fermat_more {p : Nat} (hp : Pr p) (x k : Nat) : x ^ (1 + k * (p - 1)) % p = x % p := by
  have h1 := hp.1
  induction k with
  | zero => simp
  | succ k ih =>
    rw [show 1 + (k + 1) * (p - 1) = k * (p - 1) + p by rw [Nat.add_mul]; omega, Nat.pow_add, Nat.mul_mod, fermat hp, ← Nat.mul_mod, ← Nat.pow_succ, Nat.succ_eq_add_one, Nat.add_comm _ 1, ih]
theorem rsa_round {p q e d : Nat} (hp : Pr p) (hq : Pr q) (hne : p ≠ q) (h : e * d % ((p - 1) * (q - 1)) = 1) (x : Nat) (hx : x < p * q) : (x ^ e % (p * q)) ^ d % (p * q) = x := by
  obtain ⟨k, hk⟩ : ∃ k, e * d = 1 + k * ((p - 1) * (q - 1)) := ⟨e * d / ((p - 1) * (q - 1)), by
    have := Nat.div_add_mod (e * d) ((p - 1) * (q - 1))
    rw [h, Nat.mul_comm] at this
    omega⟩
  rw [← Nat.pow_mod, ← Nat.pow_mul, hk]
  generalize hy : x ^ (1 + k * ((p - 1) * (q - 1))) = y
  have hc : Nat.Coprime p q := hp.coprime fun hd => by
    rcases hq.2 p hd with e | e
    · have := hp.1; omega
    · exact hne e
  have m1 : y % p = x % p := by
    rw [← hy, show k * ((p - 1) * (q - 1)) = (k * (q - 1)) * (p - 1) by rw [Nat.mul_comm (p - 1), Nat.mul_assoc]]
    exact fermat_more hp x _
  have m2 : y % q = x % q := by
    rw [← hy, ← Nat.mul_assoc]
    exact fermat_more hq x _
  have two : ∀ n : Nat, y % n = x % n → (n : Int) ∣ (y : Int) - x := fun n h => Int.dvd_of_emod_eq_zero (Int.emod_eq_emod_iff_emod_sub_eq_zero.1 (by exact_mod_cast h))
  have d1 := two p m1
  have d2 := two q m2
  have d3 : p * q ∣ ((y : Int) - x).natAbs := hc.mul_dvd_of_dvd_of_dvd (by simpa using Int.natAbs_dvd_natAbs.2 d1) (by simpa using Int.natAbs_dvd_natAbs.2 d2)
  have d4 : ((p * q : Nat) : Int) ∣ (y : Int) - x := Int.natAbs_dvd_natAbs.1 (by rw [Int.natAbs_natCast]; exact d3)
  have := Int.emod_emod_of_dvd
  have d5 := Int.emod_eq_emod_iff_emod_sub_eq_zero.2 (Int.emod_eq_zero_of_dvd d4)
  have d6 : y % (p * q) = x % (p * q) := by exact_mod_cast d5
  rw [d6, Nat.mod_eq_of_lt hx]
theorem pr_of (n k : Nat) (hk : n = k + 2) (h : llGo (2 ^ n - 1) k 4 = 0) : Pr (2 ^ n - 1) := by
  subst hk
  have h1 : 0 < 2 ^ (k + 2) := Nat.pow_pos (by decide)
  refine prime_ll (k := k) (by omega) ?_
  have := llGo_eq (2 ^ (k + 2) - 1) k 0
  rw [show ll (2 ^ (k + 2) - 1) 0 = 4 from rfl, h, Nat.zero_add] at this
  exact this.symm
theorem pr61 : Pr (2 ^ 61 - 1) := pr_of 61 59 rfl p61
theorem pr521 : Pr (2 ^ 521 - 1) := pr_of 521 519 rfl p521
theorem pr607 : Pr (2 ^ 607 - 1) := pr_of 607 605 rfl p607
end LL
end Go.Proofs.YtpefjkndfifceaaDoor

namespace Go.Proofs.YtpefjkndfifceaaDoor
open Go.RowKit
set_option maxRecDepth 100000

theorem bare_u8s : ∀ (l : List Nat) (_ : Byt l), Oc.bareL (u8s l) = u8s (natB 256 (nV l)).reverse
  | [], _ => by rw [show nV [] = 0 from rfl, natB_zero]; rfl
  | x :: r, hb => by
    have hx : x < 256 := hb x List.mem_cons_self
    have hr : Byt r := fun y hy => hb y (List.mem_cons_of_mem _ hy)
    have ih := bare_u8s r hr
    unfold Oc.bareL u8s at ih ⊢
    rw [List.map_cons, List.dropWhile_cons]
    by_cases h0 : x = 0
    · subst h0
      rw [if_pos (by decide), ih]
      have : nV (0 :: r) = nV r := by
        show valB 256 (0 :: r).reverse = valB 256 r.reverse
        rw [List.reverse_cons, valB_snoc, Nat.mul_zero, Nat.add_zero]
      rw [this]
    · rw [if_neg]
      · have hl : (∀ y ∈ (x :: r).reverse, y < 256) := fun y hy => hb y (List.mem_reverse.1 hy)
        have := bareN_eq (by decide) hl
        rw [List.reverse_cons, bareN_snoc _ _ h0] at this
        show List.map UInt8.ofNat (x :: r) = _
        rw [show nV (x :: r) = valB 256 (r.reverse ++ [x]) by show valB 256 (x :: r).reverse = _; rw [List.reverse_cons], ← this, List.reverse_append, List.reverse_reverse]
        rfl
      · intro h1
        rw [beq_iff_eq] at h1
        have h2 := congrArg UInt8.toNat h1
        rw [UInt8.toNat_ofNat', Nat.mod_eq_of_lt (show x < 2 ^ 8 from hx)] at h2
        exact h0 h2

/-- A number as so many bytes. -/
def beN (n z : Nat) : List Nat := List.replicate (n - (natB 256 z).length) 0 ++ (natB 256 z).reverse
theorem beN_len {n z : Nat} (h : z < 256 ^ n) : (beN n z).length = n := by
  have := (natB_length (show 2 ≤ 256 by decide) z n).2 h
  unfold beN
  rw [List.length_append, List.length_replicate, List.length_reverse]
  omega
theorem beN_byt (n z : Nat) : Byt (beN n z) := fun x hx => by
  rcases List.mem_append.1 hx with h | h
  · rw [List.eq_of_mem_replicate h]; decide
  · exact natB_digit (by decide) z x (List.mem_reverse.1 h)
theorem beN_val (n z : Nat) : nV (beN n z) = z := by
  show valB 256 (beN n z).reverse = z
  unfold beN
  rw [List.reverse_append, List.reverse_reverse, List.reverse_replicate, valB_append, valB_zeros, Nat.mul_zero, Nat.add_zero, natB_val (by decide)]
theorem nV_lt {l : List Nat} (h : Byt l) : nV l < 256 ^ l.length := by
  have := valB_lt (b := 256) (by decide) (l := l.reverse) (fun x hx => h x (List.mem_reverse.1 hx))
  rwa [List.length_reverse] at this
theorem nV_inj {l m : List Nat} (hl : Byt l) (hm : Byt m) (hn : l.length = m.length) (h : nV l = nV m) : l = m := by
  have hr : l.reverse = m.reverse := by
    refine List.ext_getElem (by simpa using hn) fun i h1 h2 => ?_
    have a := valB_get (b := 256) (by decide) (l := l.reverse) (fun x hx => hl x (List.mem_reverse.1 hx)) i
    have b := valB_get (b := 256) (by decide) (l := m.reverse) (fun x hx => hm x (List.mem_reverse.1 hx)) i
    rw [List.getElem?_eq_getElem h1] at a
    rw [List.getElem?_eq_getElem h2] at b
    have h' : valB 256 l.reverse = valB 256 m.reverse := h
    rw [h'] at a
    simp only [Option.getD_some] at a b
    rw [a, b]
  exact List.reverse_inj.1 hr
theorem beN_of {l : List Nat} (h : Byt l) : beN l.length (nV l) = l :=
  nV_inj (beN_byt _ _) h (beN_len (nV_lt h)) (beN_val _ _)
theorem pad_be {n z : Nat} (h : z < 256 ^ n) (hn : n ≤ 65536) : Oc.padR (u8s (natB 256 z).reverse) (n : Int) = (u8s (beN n z), 0) := by
  have hl := (natB_length (show 2 ≤ 256 by decide) z n).2 h
  have hb : Byt (natB 256 z).reverse := fun x hx => natB_digit (by decide) z x (List.mem_reverse.1 hx)
  have e : Oc.bareL (u8s (natB 256 z).reverse) = u8s (natB 256 z).reverse := by
    rw [bare_u8s _ hb]
    show u8s (natB 256 (valB 256 (natB 256 z).reverse.reverse)).reverse = _
    rw [List.reverse_reverse, natB_val (by decide)]
  rw [Oc.padR_yes hn (by rw [e]; simpa [u8s] using hl), e]
  unfold beN u8s
  rw [List.map_append, List.map_replicate, List.length_map, List.length_reverse]
  rfl
theorem raise_yes {N B Y : List Nat} (bN : Byt N) (ln : N.length ≤ 700) (h : nV B < nV N) : raiseV N B Y = (u8s (beN N.length (nV B ^ nV Y % nV N)), 0) := by
  unfold raiseV
  rw [if_pos h]
  refine pad_be (Nat.lt_trans (Nat.mod_lt _ (by omega)) (nV_lt bN)) (by omega)
theorem raise_no {N B Y : List Nat} (h : ¬ nV B < nV N) : raiseV N B Y = ([], 101) := by
  unfold raiseV
  rw [if_neg h]

/-- A key that is proved. -/
def GoodK (N E D : List Nat) : Prop := PrivP N E D ∧ ∃ p q, LL.Pr p ∧ LL.Pr q ∧ p ≠ q ∧ nV N = p * q ∧ nV E * nV D % ((p - 1) * (q - 1)) = 1
theorem GoodK.up {N E D : List Nat} (h : GoodK N E D) {x : Nat} (hx : x < nV N) : (x ^ nV E % nV N) ^ nV D % nV N = x := by
  obtain ⟨-, p, q, hp, hq, hne, hn, hr⟩ := h
  rw [hn] at hx ⊢
  exact LL.rsa_round hp hq hne hr x hx
theorem GoodK.down {N E D : List Nat} (h : GoodK N E D) {x : Nat} (hx : x < nV N) : (x ^ nV D % nV N) ^ nV E % nV N = x := by
  obtain ⟨-, p, q, hp, hq, hne, hn, hr⟩ := h
  rw [hn] at hx ⊢
  exact LL.rsa_round hp hq hne (by rw [Nat.mul_comm]; exact hr) x hx
end Go.Proofs.YtpefjkndfifceaaDoor

namespace Go.Proofs.YtpefjkndfifceaaDoor
open Go.RowKit
set_option maxRecDepth 100000

/-- A key: its three slices, and what they read. -/
def KeyAt (w : World) (k : Value) (N E D : List Nat) : Prop := ∃ (na : Option Addr) (nn nc : Nat) (ea : Option Addr) (en ec : Nat) (da : Option Addr) (dn dc : Nat), k = .agg #[.slice na nn nc, .slice ea en ec, .slice da dn dc] ∧ (Reads .u8 w na nn nc N ∧ Byt N ∧ nn ≤ 700) ∧ (Reads .u8 w ea en ec E ∧ Byt E ∧ en ≤ 700) ∧ Reads .u8 w da dn dc D ∧ Byt D ∧ dn ≤ 700
theorem KeyAt.below {w w' : World} {k : Value} {N E D : List Nat} (h : KeyAt w k N E D) (hb : Below w.heap.size w w') : KeyAt w' k N E D := by
  obtain ⟨na, nn, nc, ea, en, ec, da, dn, dc, rfl, ⟨h1, h2, h3⟩, ⟨h4, h5, h6⟩, h7, h8, h9⟩ := h
  exact ⟨na, nn, nc, ea, en, ec, da, dn, dc, rfl, ⟨h1.below hb, h2, h3⟩, ⟨h4.below hb, h5, h6⟩, h7.below hb, h8, h9⟩
theorem KeyAt.small {w : World} {k : Value} {N E D : List Nat} (h : KeyAt w k N E D) : (Byt N ∧ N.length ≤ 700) ∧ (Byt E ∧ E.length ≤ 700) ∧ Byt D ∧ D.length ≤ 700 := by
  obtain ⟨na, nn, nc, ea, en, ec, da, dn, dc, rfl, ⟨h1, h2, h3⟩, ⟨h4, h5, h6⟩, h7, h8, h9⟩ := h
  exact ⟨⟨h2, by rw [h1.length]; exact h3⟩, ⟨h5, by rw [h4.length]; exact h6⟩, h8, by rw [h7.length]; exact h9⟩
theorem kpublic (k : Value) (N E D : List Nat) (w : World) (hkey : KeyAt w k N E D) :
    Calls Tryd.prog 4 #[k] w fun e w' => e = .returned (.int .i64 (pubE N E)) ∧ Below w.heap.size w w' := by
  obtain ⟨na, nn, nc, ea, en, ec, da, dn, dc, rfl, ⟨hN, bN, ln⟩, ⟨hE, bE, le⟩, hD, bD, ld⟩ := hkey
  exact public_any na nn nc N ea en ec E da dn dc w hN bN hE bE ln le
theorem kprivate (k : Value) (N E D : List Nat) (w : World) (hkey : KeyAt w k N E D) :
    Calls Tryd.prog 5 #[k] w fun e w' => e = .returned (.int .i64 (privE N E D)) ∧ Below w.heap.size w w' := by
  obtain ⟨na, nn, nc, ea, en, ec, da, dn, dc, rfl, ⟨hN, bN, ln⟩, ⟨hE, bE, le⟩, hD, bD, ld⟩ := hkey
  exact private_any na nn nc N ea en ec E da dn dc D w hN bN hE bE hD bD ln le ld
theorem kbits (k : Value) (N E D : List Nat) (w : World) (hkey : KeyAt w k N E D) :
    Calls Tryd.prog 35 #[k] w fun e w' => e = .returned (.int .i64 (bitsN (numV N) : Nat)) ∧ Below w.heap.size w w' := by
  obtain ⟨na, nn, nc, ea, en, ec, da, dn, dc, rfl, ⟨hN, bN, ln⟩, ⟨hE, bE, le⟩, hD, bD, ld⟩ := hkey
  exact kbits_any na nn nc N ea en ec da dn dc w hN bN ln
theorem krpublic (k : Value) (N E D : List Nat) (w : World) (hkey : KeyAt w k N E D) :
    Calls Tryd.prog 6 #[k] w fun e w' => e = .returned (.int .i64 (pubE N E)) ∧ Below w.heap.size w w' := by
  obtain ⟨na, nn, nc, ea, en, ec, da, dn, dc, rfl, ⟨hN, bN, ln⟩, ⟨hE, bE, le⟩, hD, bD, ld⟩ := hkey
  exact rpublic_any na nn nc N ea en ec E da dn dc w hN bN hE bE ln le
theorem krprivate (k : Value) (N E D : List Nat) (w : World) (hkey : KeyAt w k N E D) :
    Calls Tryd.prog 7 #[k] w fun e w' => e = .returned (.int .i64 (privE N E D)) ∧ Below w.heap.size w w' := by
  obtain ⟨na, nn, nc, ea, en, ec, da, dn, dc, rfl, ⟨hN, bN, ln⟩, ⟨hE, bE, le⟩, hD, bD, ld⟩ := hkey
  exact rprivate_any na nn nc N ea en ec E da dn dc D w hN bN hE bE hD bD ln le ld
end Go.Proofs.YtpefjkndfifceaaDoor

namespace Go.Proofs.YtpefjkndfifceaaDoor
open Go.RowKit

/-- A hash's size, mark and name. -/
def mSize : Nat → Nat
  | 1 => 28
  | 2 => 32
  | 3 => 48
  | 4 => 64
  | _ => 0
def mMark : Nat → Nat
  | 1 => 4
  | 2 => 1
  | 3 => 2
  | 4 => 3
  | _ => 0
def mName : Nat → List UInt8
  | 1 => [115, 104, 97, 50, 50, 52]
  | 2 => [115, 104, 97, 50, 53, 54]
  | 3 => [115, 104, 97, 51, 56, 52]
  | 4 => [115, 104, 97, 53, 49, 50]
  | _ => []
/-- What the table reads as. -/
def kindL : List (List UInt8 × Int × Int) := [([115, 104, 97, 50, 50, 52], 28, 4), ([115, 104, 97, 50, 53, 54], 32, 1), ([115, 104, 97, 51, 56, 52], 48, 2), ([115, 104, 97, 53, 49, 50], 64, 3)]
def kindC : List Value := [.string (strOf [115, 104, 97, 50, 50, 52]), .int .i64 28, .int .u8 4, .string (strOf [115, 104, 97, 50, 53, 54]), .int .i64 32, .int .u8 1, .string (strOf [115, 104, 97, 51, 56, 52]), .int .i64 48, .int .u8 2, .string (strOf [115, 104, 97, 53, 49, 50]), .int .i64 64, .int .u8 3]
/-- The table stands. -/
def Kinds (w : World) : Prop := ∀ i, i < 12 → w.cell? ⟨0, i, none⟩ = kindC[i]?
theorem Kinds.lt {w : World} (h : Kinds w) : 0 < w.heap.size := World.block_lt_of_cell? w ⟨0, 0, none⟩ (h 0 (by decide))
theorem Kinds.below {w w' : World} (h : Kinds w) (hb : Below w.heap.size w w') : Kinds w' := fun i hi => (hb.cell (p := ⟨0, i, none⟩) h.lt).trans (h i hi)
theorem Kinds.grown {w w' : World} {row : Option Nat} (h : Kinds w) (hg : w.grownBy w' row) (hr : ∀ r, row = some r → r ≠ 0) : Kinds w' := fun i hi =>
  (World.cell?_of_block (a := ⟨0, i, none⟩) (hg.block _ h.lt (fun e => hr _ e.symm rfl))).trans (h i hi)
theorem Kinds.drew {w : World} (h : Kinds w) : Kinds w.drew := h.below (Below.refl _ _).drew

section
variable {H : Type} {enc : TypeId × Value → H} {w : World} {base : Nat} {sp : Nat → Bool} {held : Bool}

theorem at_one {cs : List Value} {k : Nat} {v : Value} (h : (cs.drop k).take 1 = [v]) : cs[k]? = some v := by
  have := congrArg (·[0]?) h
  simpa [List.getElem?_take, List.getElem?_drop] using this
set_option maxRecDepth 100000 in
theorem kind_cells {fuel : Nat} {cs : List Value} {x : List UInt8 × Int × Int} {p : List MemPlace} (h : DataW.trod enc Tryd.prog w base sp held fuel 56 cs = some (.agg [.lit (.string x.1), .lit (.int .i64 x.2.1), .lit (.int .u8 x.2.2)], p)) :
    cs = [.string (strOf x.1), .int .i64 x.2.1, .int .u8 x.2.2] := by
  obtain ⟨xs, n, rfl, hx, hl, hxl, hall⟩ := DataW.trod_struct Tryd.underlying56 h
  have c3 : Tryd.prog.cellsOf 56 = 3 := by kernel_rfl
  have cs1 : Tryd.prog.cellsOf 9 = 1 := by kernel_rfl
  have ci1 : Tryd.prog.cellsOf 3 = 1 := by kernel_rfl
  have cu1 : Tryd.prog.cellsOf 5 = 1 := by kernel_rfl
  rw [c3] at hl
  have hx3 : xs.map (·.1) = [.lit (.string x.1), .lit (.int .i64 x.2.1), .lit (.int .u8 x.2.2)] := by
    have := congrArg Prod.fst hx
    simpa using this.symm
  obtain ⟨x0, x1, x2, rfl⟩ : ∃ x0 x1 x2, xs = [x0, x1, x2] := by
    match xs, hx3 with
    | [x0, x1, x2], _ => exact ⟨x0, x1, x2, rfl⟩
  simp only [List.map_cons, List.map_nil, List.cons.injEq, and_true] at hx3
  obtain ⟨e0, e1, e2⟩ := hx3
  have f0 := hall 0 _ rfl
  have f1 := hall 1 _ rfl
  have f2 := hall 2 _ rfl
  change DataW.trod _ _ _ _ _ _ _ 9 ((cs.drop 0).take (Tryd.prog.cellsOf 9)) = some x0 at f0
  change DataW.trod _ _ _ _ _ _ _ 3 ((cs.drop 1).take (Tryd.prog.cellsOf 3)) = some x1 at f1
  change DataW.trod _ _ _ _ _ _ _ 5 ((cs.drop 2).take (Tryd.prog.cellsOf 5)) = some x2 at f2
  rw [cs1] at f0
  rw [ci1] at f1
  rw [cu1] at f2
  have g0 : cs[0]? = some (.string (strOf x.1)) := by
    obtain ⟨z, hz, hx', _⟩ := DataW.trod_string Tryd.underlying9 f0
    rw [hx'] at e0
    have e : z.data.toList = x.1 := by simpa using e0
    have : z = strOf x.1 := by
      rw [← e]
      rfl
    rw [← this]
    exact at_one hz
  have g1 : cs[1]? = some (.int .i64 x.2.1) := by
    obtain ⟨z, hz, hx', _⟩ := DataW.trod_int Tryd.underlying3 f1
    rw [hx'] at e1
    cases e1
    exact at_one hz
  have g2 : cs[2]? = some (.int .u8 x.2.2) := by
    obtain ⟨z, hz, hx', _⟩ := DataW.trod_int Tryd.underlying5 f2
    rw [hx'] at e2
    cases e2
    exact at_one hz
  match cs, hl, g0, g1, g2 with
  | [c0, c1, c2], _, g0, g1, g2 =>
    simp at g0 g1 g2
    subst g0 g1 g2
    rfl
set_option maxRecDepth 100000 in
theorem kinds_cells {fuel : Nat} {cs : List Value} {p : List MemPlace} (h : DataW.trod enc Tryd.prog w base sp held fuel 73 cs = some (Rows.laid_postmark_mask_kinds, p)) : ∀ i, i < 12 → cs[i]? = kindC[i]? := by
  obtain ⟨xs, n, rfl, hx, hl, hxl, hall⟩ := DataW.trod_array Tryd.underlying73 h
  have c3 : Tryd.prog.cellsOf 56 = 3 := by kernel_rfl
  have hx4 : xs.map (·.1) = kindL.map fun x => .agg [.lit (.string x.1), .lit (.int .i64 x.2.1), .lit (.int .u8 x.2.2)] := by
    have := congrArg Prod.fst hx
    simpa [Rows.laid_postmark_mask_kinds, kindL] using this.symm
  have row : ∀ i, i < 4 → (cs.drop (i * 3)).take 3 = [.string (strOf (kindL.getD i ([], 0, 0)).1), .int .i64 (kindL.getD i ([], 0, 0)).2.1, .int .u8 (kindL.getD i ([], 0, 0)).2.2] := fun i hi => by
    have h1 := hall i hi
    rw [c3] at h1
    have h2 : (xs.map (·.1))[i]? = some xs[i].1 := by rw [List.getElem?_map, List.getElem?_eq_getElem (by omega)]; rfl
    rw [List.getElem?_eq_getElem (show i < xs.length by omega)] at h1
    rw [hx4, List.getElem?_map] at h2
    have h3 : kindL[i]? = some (kindL.getD i ([], 0, 0)) := by
      have : i < kindL.length := hi
      rw [List.getD, List.getElem?_eq_getElem this]
      rfl
    rw [h3] at h2
    simp only [Option.map_some, Option.some.injEq] at h2
    exact kind_cells (p := xs[i].2) (by rw [h1, h2])
  have cell : ∀ i j, i < 4 → j < 3 → cs[i * 3 + j]? = ([.string (strOf (kindL.getD i ([], 0, 0)).1), .int .i64 (kindL.getD i ([], 0, 0)).2.1, .int .u8 (kindL.getD i ([], 0, 0)).2.2] : List Value)[j]? := fun i j hi hj => by
    rw [← row i hi, List.getElem?_take, if_pos hj, List.getElem?_drop]
  intro i hi
  have h1 := cell (i / 3) (i % 3) (by omega) (by omega)
  rw [show i / 3 * 3 + i % 3 = i by omega] at h1
  rw [h1]
  clear h1
  match i, hi with
  | 0, _ | 1, _ | 2, _ | 3, _ | 4, _ | 5, _ | 6, _ | 7, _ | 8, _ | 9, _ | 10, _ | 11, _ => rfl
end
set_option maxRecDepth 100000 in
theorem kinds_of_laid {W : World} (h : laidMetH Tryd.prog [("postmark/mask.kinds", Rows.laid_postmark_mask_kinds)] W) : Kinds W := by
  have h' : laidMet Tryd.prog [("postmark/mask.kinds", Rows.laid_postmark_mask_kinds)] W := h
  obtain ⟨ps, ⟨g', t', cs, fuel, p, q, hg', ht', hvar, hd, _, _⟩, _⟩ := h'
  have hg : Tryd.prog.globalNamed "postmark/mask.kinds" = some 0 := by kernel_rfl
  have ht : (Tryd.prog.globals[0]?).map (·.type) = some 73 := by kernel_rfl
  obtain rfl := Option.some.inj (hg.symm.trans hg')
  obtain rfl := Option.some.inj (ht.symm.trans ht')
  intro i hi
  have h1 := World.var?_cell hg hvar i
  have h2 := kinds_cells hd i hi
  rw [← h2]
  simpa using h1

end Go.Proofs.YtpefjkndfifceaaDoor

namespace Go.Proofs.YtpefjkndfifceaaDoor
open Go.RowKit

/-- A hash's row of the table, as a value. -/
def kindV (h : Nat) : Value := .agg #[.string (strOf (mName h)), .int .i64 (mSize h : Int), .int .u8 (mMark h : Int)]
def IsHash (h : Nat) : Prop := h = 1 ∨ h = 2 ∨ h = 3 ∨ h = 4
theorem isHash_lt {h : Nat} (hh : IsHash h) : 1 ≤ h ∧ h ≤ 4 := by unfold IsHash at hh; omega
theorem mSize_le {h : Nat} (hh : IsHash h) : 28 ≤ mSize h ∧ mSize h ≤ 64 := by rcases hh with rfl | rfl | rfl | rfl <;> decide

theorem known_yesM (h : Nat) (hh : IsHash h) (w : World) (hk : Kinds w) : Calls Tryd.prog 32 #[.int .i64 (h : Int)] w fun e w' => e = .returned (.tuple #[kindV h, .bool true]) ∧ Below w.heap.size w w' := by
  rcases hh with rfl | rfl | rfl | rfl
  · have c0 : w.cell? ⟨0, 0, none⟩ = some (.string (strOf [115, 104, 97, 50, 50, 52])) := hk 0 (by decide)
    have c1 : w.cell? ⟨0, 1, none⟩ = some (.int .i64 28) := hk 1 (by decide)
    have c2 : w.cell? ⟨0, 2, none⟩ = some (.int .u8 4) := hk 2 (by decide)
    have hlt := hk.lt
    clear hk
    go_enter Tryd.func32, Tryd.ntmps32
    go_wp2
    refine bodyPost_ret (v := .tuple #[kindV 1, .bool true]) ?_ rfl ⟨rfl, ?_⟩
    · rw [results_cell_tmp rfl]
      go_simp
      rfl
    · (repeat' (first | exact Below.refl _ _ | refine Below.drew ?_ | refine Below.alloc ?_ (by simp <;> omega) _))
  · have c0 : w.cell? ⟨0, 3, none⟩ = some (.string (strOf [115, 104, 97, 50, 53, 54])) := hk 3 (by decide)
    have c1 : w.cell? ⟨0, 4, none⟩ = some (.int .i64 32) := hk 4 (by decide)
    have c2 : w.cell? ⟨0, 5, none⟩ = some (.int .u8 1) := hk 5 (by decide)
    have hlt := hk.lt
    clear hk
    go_enter Tryd.func32, Tryd.ntmps32
    go_wp2
    refine bodyPost_ret (v := .tuple #[kindV 2, .bool true]) ?_ rfl ⟨rfl, ?_⟩
    · rw [results_cell_tmp rfl]
      go_simp
      rfl
    · (repeat' (first | exact Below.refl _ _ | refine Below.drew ?_ | refine Below.alloc ?_ (by simp <;> omega) _))
  · have c0 : w.cell? ⟨0, 6, none⟩ = some (.string (strOf [115, 104, 97, 51, 56, 52])) := hk 6 (by decide)
    have c1 : w.cell? ⟨0, 7, none⟩ = some (.int .i64 48) := hk 7 (by decide)
    have c2 : w.cell? ⟨0, 8, none⟩ = some (.int .u8 2) := hk 8 (by decide)
    have hlt := hk.lt
    clear hk
    go_enter Tryd.func32, Tryd.ntmps32
    go_wp2
    refine bodyPost_ret (v := .tuple #[kindV 3, .bool true]) ?_ rfl ⟨rfl, ?_⟩
    · rw [results_cell_tmp rfl]
      go_simp
      rfl
    · (repeat' (first | exact Below.refl _ _ | refine Below.drew ?_ | refine Below.alloc ?_ (by simp <;> omega) _))
  · have c0 : w.cell? ⟨0, 9, none⟩ = some (.string (strOf [115, 104, 97, 53, 49, 50])) := hk 9 (by decide)
    have c1 : w.cell? ⟨0, 10, none⟩ = some (.int .i64 64) := hk 10 (by decide)
    have c2 : w.cell? ⟨0, 11, none⟩ = some (.int .u8 3) := hk 11 (by decide)
    have hlt := hk.lt
    clear hk
    go_enter Tryd.func32, Tryd.ntmps32
    go_wp2
    refine bodyPost_ret (v := .tuple #[kindV 4, .bool true]) ?_ rfl ⟨rfl, ?_⟩
    · rw [results_cell_tmp rfl]
      go_simp
      rfl
    · (repeat' (first | exact Below.refl _ _ | refine Below.drew ?_ | refine Below.alloc ?_ (by simp <;> omega) _))
theorem known_noM (h : Int) (hn : h < 1 ∨ 4 < h) (w : World) : Calls Tryd.prog 32 #[.int .i64 h] w fun e w' => e = .returned (.tuple #[.agg #[.string ⟨#[]⟩, .int .i64 0, .int .u8 0], .bool false]) ∧ Below w.heap.size w w' := by
  by_cases h1 : h < 1
  · have d1 : decide (h < 1) = true := by simpa using h1
    clear hn h1
    go_enter Tryd.func32, Tryd.ntmps32
    go_wp2
    refine bodyPost_ret (v := .tuple #[.agg #[.string ⟨#[]⟩, .int .i64 0, .int .u8 0], .bool false]) ?_ rfl ⟨rfl, ?_⟩
    · rw [results_cell_tmp rfl]
      go_simp
    · (repeat' (first | exact Below.refl _ _ | refine Below.drew ?_ | refine Below.alloc ?_ (by simp <;> omega) _))
  · have d1 : decide (h < 1) = false := by simpa using h1
    have d2 : decide (4 < h) = true := by simp; omega
    clear hn h1
    go_enter Tryd.func32, Tryd.ntmps32
    go_wp2
    refine bodyPost_ret (v := .tuple #[.agg #[.string ⟨#[]⟩, .int .i64 0, .int .u8 0], .bool false]) ?_ rfl ⟨rfl, ?_⟩
    · rw [results_cell_tmp rfl]
      go_simp
    · (repeat' (first | exact Below.refl _ _ | refine Below.drew ?_ | refine Below.alloc ?_ (by simp <;> omega) _))
theorem size_yes (h : Nat) (hh : IsHash h) (w : World) (hk : Kinds w) : Calls Tryd.prog 18 #[.int .i64 (h : Int)] w fun e w' => e = .returned (.int .i64 (mSize h : Int)) ∧ Below w.heap.size w w' := by
  go_enter Tryd.func18, Tryd.ntmps18
  go_wp2_with fail
  refine (known_yesM h hh w hk).mono ?_
  rintro e w1 ⟨rfl, h1⟩
  have H1 := Lib.hid h1
  clear h1
  unfold kindV
  go_wp2
  go_ret
  exact ⟨rfl, by have h := H1.out; have hs := h.size; (repeat' (first | exact h | refine Below.drew ?_ | refine Below.alloc ?_ (by first | omega | (simp; omega)) _))⟩
theorem size_no (h : Int) (hn : h < 1 ∨ 4 < h) (w : World) : Calls Tryd.prog 18 #[.int .i64 h] w fun e w' => e = .returned (.int .i64 0) ∧ Below w.heap.size w w' := by
  go_enter Tryd.func18, Tryd.ntmps18
  go_wp2_with fail
  refine (known_noM h hn w).mono ?_
  rintro e w1 ⟨rfl, h1⟩
  have H1 := Lib.hid h1
  clear h1
  go_wp2
  go_ret
  exact ⟨rfl, by have h := H1.out; have hs := h.size; (repeat' (first | exact h | refine Below.drew ?_ | refine Below.alloc ?_ (by first | omega | (simp; omega)) _))⟩
end Go.Proofs.YtpefjkndfifceaaDoor
namespace Go.Proofs.YtpefjkndfifceaaDoor
open Go.RowKit
theorem infoMk : (Tryd.prog.info? 5).map (fun i => (i.zero, i.size, i.bytes)) = some (some (.int .u8 0), 1, 1) := by kernel_rfl
theorem own_slM {q : IntKind} {E B : Nat} {w : World} {v : Value} {l : List Nat} (h : OwnQ q E B w v l) : ∃ a n cap, v = .slice a n cap ∧ n = l.length ∧ OwnQ q E B w (.slice a n cap) l := by
  obtain ⟨a, c, rfl, -, -⟩ := h.form
  exact ⟨a, _, c, rfl, rfl, h⟩
theorem OwnQ.litM (q : IntKind) (w : World) (E : TypeId) (B : Nat) (hB : B ≤ w.heap.size) (l : List Nat) (cs : Array Value) (n : Nat) (h : cs = (l.map (num q)).toArray) (hn : n = l.length) (hm : l.length ≤ maxLen) : OwnQ q E B (w.alloc (.cells cs E)) (.slice (some ⟨w.heap.size, 0, .none⟩) n n) l := by
  subst h hn
  exact World.ownsRow_lit w _ l.length hB hm (by simp)
theorem Reads.litM (q : IntKind) (w : World) (E : TypeId) (l : List Nat) (cs : Array Value) (n : Nat) (h : cs = (l.map (num q)).toArray) (hn : n = l.length) (hm : l.length ≤ maxLen) : Reads q (w.alloc (.cells cs E)) (some ⟨w.heap.size, 0, .none⟩) n n l :=
  (OwnQ.litM q w E w.heap.size (Nat.le_refl _) l cs n h hn hm).reads

theorem reads_of_bytesM {w : World} {a : Option Addr} {len cap : Nat} {zs : List Int}
    (h : (a = .none ∧ len = 0 ∧ cap = 0 ∧ zs = []) ∨ ∃ x, a = some x ∧ len ≤ cap ∧ cap ≤ maxLen ∧ zs.length = cap ∧ (∀ i, i < zs.length → w.cell? (x.add i) = some (.int .u8 (zs.getD i 0))) ∧ ∀ n ∈ zs, (Lit.int .u8 n).wf = true) :
    ∃ l : List Nat, Reads .u8 w a len cap l ∧ ∀ x ∈ l, x < 256 := by
  rcases h with ⟨rfl, rfl, rfl, rfl⟩ | ⟨x, rfl, hl, hm, hz, hc, hw⟩
  · exact ⟨[], Reads.none _ w, fun _ h => by cases h⟩
  · have hbd : ∀ n ∈ zs, 0 ≤ n ∧ n < 256 := fun n hn => by
      have := hw n hn
      simp [Lit.wf, IntKind.min, IntKind.max, IntKind.signed, IntKind.bits] at this
      omega
    refine ⟨(zs.take len).map fun n => n.toNat, ⟨by simp; omega, hl, hm, (fun h => by cases h), fun hp => ?_⟩, fun y hy => ?_⟩
    · obtain ⟨b, off, spot⟩ := x
      have h0 := hc 0 (by omega)
      have hs : spot = .none := by simpa [Addr.add] using World.cell?_spot h0
      subst hs
      refine ⟨b, off, rfl, World.block_lt_of_cell? w _ (by simpa [Addr.add] using h0), fun i hi => ?_⟩
      have hci := hc i (by omega)
      have e : (⟨b, off, .none⟩ : Addr).add i = ⟨b, off + i, .none⟩ := by unfold Addr.add; split <;> simp_all
      rw [e] at hci
      rw [hci]
      have hlt : i < zs.length := by omega
      have hb := hbd zs[i] (List.getElem_mem _)
      have h1 : zs.getD i 0 = zs[i] := by simp [List.getD, hlt]
      rw [h1]
      simp [hi, hlt]
      omega
    · obtain ⟨n, hn, rfl⟩ := List.mem_map.1 hy
      have := hbd n (List.mem_of_mem_take hn)
      omega

/-- A frame's first bytes; a frame. -/
def frameH (h : Nat) : List Nat := [48, 17 + mSize h, 48, 13, 6, 9, 96, 134, 72, 1, 101, 3, 4, 2, mMark h, 5, 0, 4, mSize h]
def frameL (h : Nat) (d : List Nat) : List Nat := frameH h ++ d
theorem frameH_len (h : Nat) : (frameH h).length = 19 := rfl
theorem mMark_lt {h : Nat} (hh : IsHash h) : mMark h < 256 := by rcases hh with rfl | rfl | rfl | rfl <;> decide
theorem frameH_lt {h : Nat} (hh : IsHash h) : ∀ x ∈ frameH h, x < 256 := by
  rcases hh with rfl | rfl | rfl | rfl <;> decide

set_option maxHeartbeats 1000000 in
theorem frame_yes (h : Nat) (hh : IsHash h) (a : Option Addr) (n c : Nat) (d : List Nat) (w : World) (hk : Kinds w) (hr : Reads .u8 w a n c d) (hn : n = mSize h) :
    Calls Tryd.prog 43 #[.int .i64 (h : Int), .slice a n c] w fun e w' => (∃ v, e = .returned (.tuple #[v, .int .i64 0]) ∧ OwnQ .u8 5 w.heap.size w' v (frameL h d)) ∧ Below w.heap.size w w' := by
  obtain ⟨i0, hi, hz0, hz1, hz2⟩ := info_parts infoMk
  have HR := Lib.hid hr
  have hs := mSize_le hh
  have hn64 : n ≤ 64 := by omega
  have HMK := Lib.hid (mMark_lt hh)
  obtain ⟨s, hse⟩ : ∃ s, s = mSize h := ⟨_, rfl⟩
  obtain ⟨m, hme⟩ : ∃ m, m = mMark h := ⟨_, rfl⟩
  have HF := Lib.hid (show frameH h = [48, 17 + s, 48, 13, 6, 9, 96, 134, 72, 1, 101, 3, 4, 2, m, 5, 0, 4, s] by rw [hse, hme]; rfl)
  have t1 : ((n : Int) != (s : Int)) = false := by simp; omega
  have w1 : IntKind.u8.wrap (s : Int) = (s : Int) := by rw [IntKind.wrap_u8]; omega
  have w2 : IntKind.u8.wrap (17 + (s : Int)) = ((17 + s : Nat) : Int) := by rw [IntKind.wrap_u8]; omega
  go_enter Tryd.func43, Tryd.ntmps43
  go_wp2_with fail
  refine (known_yesM h hh w hk).mono ?_
  rintro e w1 ⟨rfl, h1⟩
  have HB1 := Lib.hid h1
  have HDL := Lib.hid (show d.length = n from HR.out.length)
  unfold kindV
  rw [← hse, ← hme]
  have HSE := Lib.hid hse
  have hz1s : w.heap.size ≤ w1.heap.size := h1.size
  have hk0 := OwnQ.litM .u8 (w1.alloc (.cells #[.string (strOf (mName h)), .int .i64 (s : Int), .int .u8 (m : Int)] 56)) 5 w.heap.size (by simp; omega) (frameH h) #[.int .u8 48, .int .u8 (17 + (s : Int)), .int .u8 48, .int .u8 13, .int .u8 6, .int .u8 9, .int .u8 96, .int .u8 134, .int .u8 72, .int .u8 1, .int .u8 101, .int .u8 3, .int .u8 4, .int .u8 2, .int .u8 (m : Int), .int .u8 5, .int .u8 0, .int .u8 4, .int .u8 (s : Int)] 19 (by rw [HF.out]; simp [num]) (by rw [frameH_len]) (by rw [frameH_len]; decide)
  rw [World.size_alloc] at hk0
  have HK0 := Lib.hid hk0
  clear hk0
  clear h1 hr hse hme hs hk hn
  go_wp2_with (at_builtin; go_loud (refine wpList_append_q .u8 _ rfl _ _ 22 rfl w.heap.size 5 1 i0 Tryd.underlying22 hi hz0 hz1 hz2 (by decide) _ (frameH h) rfl HK0.out a n c d rfl (HR.out.below (by have h := HB1.out; have hs := h.size; (repeat' (first | exact h | refine Below.drew ?_ | refine Below.alloc ?_ (by first | omega | (simp; omega)) _)))) (by rw [frameH_len]; omega) (by have := HB1.out.size; simp; omega) ?_); intro v2 w2 hown hgrow; have HO := Lib.hid hown; have HB2 := Lib.hid (hgrow w (by have h := HB1.out; have hs := h.size; (repeat' (first | exact h | refine Below.drew ?_ | refine Below.alloc ?_ (by first | omega | (simp; omega)) _)))); clear hown hgrow)
  go_ret2
  exact ⟨⟨_, rfl, HO.out⟩, HB2.out⟩
theorem frame_no (h : Int) (a : Option Addr) (n c : Nat) (w : World) (hk : Kinds w) (hn : ∀ k : Nat, IsHash k → h = (k : Int) → n ≠ mSize k) :
    Calls Tryd.prog 43 #[.int .i64 h, .slice a n c] w fun e w' => e = .returned (.tuple #[.slice none 0 0, .int .i64 80]) ∧ Below w.heap.size w w' := by
  by_cases hh : h < 1 ∨ 4 < h
  · go_enter Tryd.func43, Tryd.ntmps43
    go_wp2_with fail
    refine (known_noM h hh w).mono ?_
    rintro e w1 ⟨rfl, h1⟩
    have H1 := Lib.hid h1
    clear h1 hh hn
    go_wp2
    go_ret2
    exact ⟨rfl, by have h := H1.out; have hs := h.size; (repeat' (first | exact h | refine Below.drew ?_ | refine Below.alloc ?_ (by first | omega | (simp; omega)) _))⟩
  · obtain ⟨k, hk1, hk2⟩ : ∃ k : Nat, IsHash k ∧ h = (k : Int) := ⟨h.toNat, by unfold IsHash; omega, by omega⟩
    have hne := hn k hk1 hk2
    have t1 : ((n : Int) != (mSize k : Int)) = true := by simp; omega
    subst hk2
    clear hh hn hne
    go_enter Tryd.func43, Tryd.ntmps43
    go_wp2_with fail
    refine (known_yesM k hk1 w hk).mono ?_
    rintro e w1 ⟨rfl, h1⟩
    have H1 := Lib.hid h1
    unfold kindV
    clear h1
    go_wp2
    go_ret2
    exact ⟨rfl, by have h := H1.out; have hs := h.size; (repeat' (first | exact h | refine Below.drew ?_ | refine Below.alloc ?_ (by first | omega | (simp; omega)) _))⟩

end Go.Proofs.YtpefjkndfifceaaDoor

namespace Go.Proofs.YtpefjkndfifceaaDoor
open Go.RowKit
set_option maxRecDepth 100000

theorem OwnQ.madeM {q : IntKind} {E : TypeId} {B : Nat} {w : World} {g n : Nat} {z : List Value} (h : w.ownsRow B E 1 (.slice (some ⟨g, 0, none⟩) n n) n z) (hz : z = (madeCells (Value.int q 0).cells (n * 1)).toList) : OwnQ q E B w (.slice (some ⟨g, 0, none⟩) n n) (List.replicate n 0) := by
  unfold OwnQ
  rw [← zeros_q, ← hz]
  simpa using h

/-- 'make' with room beyond its length. -/
theorem wpList_make_lcM {P : Program} (q : IntKind) (w : World) {ops : Array Oper} {rest : List Oper} {o : Oper} {a : Act} {Q : Exit → Act → World → Prop}
    (hg : o.guard = none) (l c : Operand) (t : TypeId) (hop : o.op = Op.makeSlice t l c)
    (base : Nat) (e : TypeId) (i : TypeInfo) (h1 : P.underlying t = some (.slice e)) (h2 : P.info? e = some i) (h3 : i.zero = some (.int q 0)) (h4 : i.size = 1)
    (kl kc : IntKind) (L C : Int) (m n : Nat) (hl : a.eval l = .int kl L) (hc : a.eval c = .int kc C) (hL : L = (m : Int)) (hC : C = (n : Int)) (hmn : m ≤ n) (b2 : i.bytes * n ≤ 281474976710656) (b3 : n ≤ maxLen) (b4 : base ≤ w.heap.size)
    (hK : ∀ w', OwnQ q e base w' (.slice (some ⟨w.heap.size, 0, none⟩) m n) (List.replicate m 0) → w.grownBy w' none → wpList P ops Q rest (a.put o.dst (.slice (some ⟨w.heap.size, 0, none⟩) m n)) w') :
    wpList P ops Q (o :: rest) a w := by
  refine wpList_plain hg fun K hK' => ?_
  subst hL
  subst hC
  have h63' : (n : Int) ≤ 9223372036854775807 := by
    have h := b3
    simp [maxLen] at h
    omega
  have hb' : (i.bytes : Int) * (n : Int) ≤ 281474976710656 := by
    have h : ((i.bytes * n : Nat) : Int) ≤ 281474976710656 := by omega
    rwa [Int.natCast_mul] at h
  have hr := run_make (P := P) w t e i (.int q 0) h1 h2 h3 kl kc m n (by omega) (by omega) hb' h63'
  simp only [Int.toNat_natCast] at hr
  have hown : OwnQ q e base (w.alloc (.cells (madeCells (Value.int q 0).cells (n * i.size)) e)) (.slice (some ⟨w.heap.size, 0, none⟩) n n) (List.replicate n 0) := by
    rw [h4]
    exact OwnQ.madeM (World.ownsRow_lit w _ n b4 b3 (size_madeCells _ _)) rfl
  have hup := hown.upto m hmn
  rw [List.take_replicate, Nat.min_eq_left hmn] at hup
  unfold Oper.wp
  simp [execOp, hop, hl, hc, hr, Result.andThen]
  exact hK' _ _ (hK _ hup (World.grownBy_alloc w _ none))

def lenM : Value → Nat
  | .slice _ n _ => n
  | _ => 0
/-- An encoding. -/
def mEncP (h P : Nat) (d : List Nat) : List Nat := [0, 1] ++ List.replicate P 255 ++ [0] ++ frameL h d
def encL (h : Nat) (d : List Nat) (size : Nat) : List Nat := mEncP h (size - (19 + mSize h) - 3) d

set_option maxHeartbeats 2000000 in
theorem encode_yes (h : Nat) (hh : IsHash h) (a : Option Addr) (n c : Nat) (d : List Nat) (size : Nat) (w : World) (hk : Kinds w) (hr : Reads .u8 w a n c d) (hn : n = mSize h) (hlo : n + 30 ≤ size) (hhi : size ≤ 65536) :
    Calls Tryd.prog 33 #[.int .i64 (h : Int), .slice a n c, .int .i64 (size : Int)] w fun e w' => (∃ v, e = .returned (.tuple #[v, .int .i64 0]) ∧ OwnQ .u8 5 w.heap.size w' v (encL h d size)) ∧ Below w.heap.size w w' := by
  obtain ⟨i0, hi, hz0, hz1, hz2⟩ := info_parts infoMk
  have hs := mSize_le hh
  have hn64 : n ≤ 64 := by omega
  obtain ⟨P, hP⟩ : ∃ P, P = size - (19 + n) - 3 := ⟨_, rfl⟩
  have HE := Lib.hid (show encL h d size = mEncP h P d by rw [hP, hn]; rfl)
  have hPs : size = 19 + n + 3 + P := by omega
  have HDL := Lib.hid (show d.length = n from hr.length)
  have HR := Lib.hid hr
  have HN := Lib.hid hn
  clear hr hn hP hs
  subst hPs
  have hP2 : P ≤ 65536 := by omega
  have t1 : decide (((19 + n + 3 + P : Nat) : Int) < ((19 + n : Nat) : Int) + 11) = false := by simp; omega
  have t2 : decide ((65536 : Int) < ((19 + n + 3 + P : Nat) : Int)) = false := by simp; omega
  obtain ⟨size, hsize⟩ : ∃ size, size = 19 + n + 3 + P := ⟨_, rfl⟩
  obtain ⟨f, hf⟩ : ∃ f, f = 19 + n := ⟨_, rfl⟩
  rw [← hsize] at t1 t2 hlo hhi ⊢
  rw [← hf] at t1
  have hsub : (size : Int) - (f : Int) - 1 = ((2 + P : Nat) : Int) := by omega
  have HSZ := Lib.hid hsize
  have HFF := Lib.hid hf
  have hfb : f ≤ 83 := by omega
  clear hsize hf
  go_enter Tryd.func33, Tryd.ntmps33
  go_wp2_with fail
  refine (frame_yes h hh a n c d w hk HR.out HN.out).mono ?_
  rintro e w1 ⟨⟨v, rfl, ho⟩, h1⟩
  obtain ⟨fa, fn, fc, rfl, hfn, ho⟩ := own_slM ho
  rw [frameL, List.length_append, frameH_len, HDL.out, ← HFF.out] at hfn
  subst hfn
  have HF := Lib.hid ho
  have HB1 := Lib.hid h1
  have hz1w : w.heap.size ≤ w1.heap.size := h1.size
  clear ho h1 hk
  go_wp2_with (first
    | (at_make; refine wpList_make_lcM .u8 _ rfl _ _ 22 rfl w1.heap.size 5 i0 Tryd.underlying22 hi hz0 hz1 _ _ _ _ 0 size rfl rfl rfl rfl (Nat.zero_le _) (by rw [hz2]; omega) (by unfold maxLen; omega) (Nat.le_refl _) ?_; intro w2 hown hgrow; have HO2 := Lib.hid hown; have HB2 := Lib.hid ((Below.refl w1.heap.size w1).grown hgrow (Nat.le_refl _) (fun r e => by cases e)); clear hown hgrow)
    | (at_builtin; (refine wpList_append_q .u8 _ rfl _ _ 22 rfl w1.heap.size 5 1 i0 Tryd.underlying22 hi hz0 hz1 hz2 (by decide) _ ([]) rfl (HO2.out.alloc _) _ 2 2 ([0, 1]) rfl (Reads.litM .u8 w2 5 [0, 1] #[.int .u8 0, .int .u8 1] 2 (by simp [num]) rfl (by decide)) (by simp) (by have := HB2.out.size; simp; omega) ?_; intro v3 w3 hown hgrow; rw [List.nil_append] at hown; have HO3 := Lib.hid hown; have HB3 := Lib.hid (hgrow w1 (HB2.out.alloc HB2.out.size _)); clear hown hgrow)))
  obtain ⟨a3, n3, c3, rfl, hn3, ho3⟩ := own_slM HO3.out
  have HO4 := Lib.hid ho3
  obtain rfl : n3 = 2 := hn3
  clear HO3 ho3
  go_loopw [10] (fun sv wq => ∃ (j m c' : Nat) (a' : Option Addr), sv = .slice a' m c' ∧ m ≤ 70000 ∧ j ≤ P ∧ Hid (m = 2 + j ∧ OwnQ .u8 5 w1.heap.size wq (.slice a' m c') ([0, 1] ++ List.replicate j 255) ∧ Below w1.heap.size w1 wq)) (fun sv _ => 2 + P - lenM sv)
  case atStart => exact ⟨0, 2, c3, a3, rfl, by omega, Nat.zero_le _, rfl, by rw [List.replicate_zero, List.append_nil]; exact HO4.out, HB3.out⟩
  case round =>
    obtain ⟨j, m, c', a', rfl, hm, hj, hI⟩ := hrel
    have hszr := hI.out.2.2.size
    by_cases hlt : j < P
    · have tl : decide ((m : Int) < 2 + (P : Int)) = true := by have := hI.out.1; simp; omega
      go_wp2_with (at_builtin; (refine wpList_append_q .u8 _ rfl _ _ 22 rfl w1.heap.size 5 1 i0 Tryd.underlying22 hi hz0 hz1 hz2 (by decide) _ ([0, 1] ++ List.replicate j 255) rfl (hI.out.2.1.alloc _) _ 1 1 ([255]) rfl (Reads.one .u8 _ _ _ _ rfl) (by simp; omega) (by have := hI.out.2.2.size; simp; omega) ?_; intro v5 w5 hown hgrow; obtain ⟨a5, n5, c5, rfl, hn5, ho5⟩ := own_slM hown; have HO5 := Lib.hid ho5; have HN5 := Lib.hid hn5; have HB5 := Lib.hid (hgrow w1 (hI.out.2.2.alloc hI.out.2.2.size _)); clear hown hgrow hn5 ho5))
      have hn6 : n5 = 2 + (j + 1) := by rw [HN5.out]; simp; omega
      go_roundw
      case rel => exact ⟨j + 1, n5, c5, a5, rfl, by omega, by omega, hn6, by
        have h := HO5.out
        rw [List.append_assoc, ← List.replicate_succ'] at h
        exact h, HB5.out⟩
      case measure =>
        have h1 := hI.out.1
        simp [lenM]
        omega
    · obtain rfl : j = P := by omega
      have tl : decide ((m : Int) < 2 + (j : Int)) = false := by have := hI.out.1; simp; omega
      have HI := Lib.hid hI.out
      have HFR := Lib.hid (HF.out.below hI.out.2.2)
      have hmj := hI.out.1
      clear hI
      go_wp2_with (at_builtin; first
        | (refine wpList_append_q .u8 _ rfl _ _ 22 rfl w1.heap.size 5 1 i0 Tryd.underlying22 hi hz0 hz1 hz2 (by decide) _ ([0, 1] ++ List.replicate j 255) rfl (HI.out.2.1.alloc _) _ 1 1 ([0]) rfl (Reads.one .u8 _ _ _ _ rfl) (by simp; omega) (by have := HI.out.2.2.size; simp; omega) ?_; intro v6 w6 hown hgrow; have HO6 := Lib.hid hown; have HB6 := Lib.hid (hgrow w1 (HI.out.2.2.alloc HI.out.2.2.size _)); clear hown hgrow)
        | (refine wpList_append_q .u8 _ rfl _ _ 22 rfl w1.heap.size 5 1 i0 Tryd.underlying22 hi hz0 hz1 hz2 (by decide) _ ([0, 1] ++ List.replicate j 255 ++ [0]) rfl (HO6.out) fa fn fc (frameL h d) rfl ((HF.out.below HB6.out).reads) (by simp; omega) (HB6.out.size) ?_; intro v7 w7 hown hgrow; have HO7 := Lib.hid hown; have HB7 := Lib.hid (hgrow w1 HB6.out); clear hown hgrow))
      go_ret2
      exact ⟨⟨_, rfl, by have := HO7.out.mono hz1w; rw [HSZ.out, HE.out]; exact this⟩, HB1.out.trans (HB7.out.mono hz1w)⟩

end Go.Proofs.YtpefjkndfifceaaDoor

namespace Go.Proofs.YtpefjkndfifceaaDoor
open Go.RowKit
set_option maxRecDepth 100000

theorem encode_noFrame (h : Int) (a : Option Addr) (n c : Nat) (size : Int) (w : World) (hk : Kinds w) (hn : ∀ k : Nat, IsHash k → h = (k : Int) → n ≠ mSize k) :
    Calls Tryd.prog 33 #[.int .i64 h, .slice a n c, .int .i64 size] w fun e w' => e = .returned (.tuple #[.slice none 0 0, .int .i64 80]) ∧ Below w.heap.size w w' := by
  go_enter Tryd.func33, Tryd.ntmps33
  go_wp2_with fail
  refine (frame_no h a n c w hk hn).mono ?_
  rintro e w1 ⟨rfl, h1⟩
  have H1 := Lib.hid h1
  clear h1 hn
  go_wp2
  go_ret2
  exact ⟨rfl, H1.out⟩
theorem encode_noSize (h : Nat) (hh : IsHash h) (a : Option Addr) (n c : Nat) (d : List Nat) (size : Int) (w : World) (hk : Kinds w) (hr : Reads .u8 w a n c d) (hn : n = mSize h) (hs : size < n + 30 ∨ 65536 < size) :
    Calls Tryd.prog 33 #[.int .i64 (h : Int), .slice a n c, .int .i64 size] w fun e w' => e = .returned (.tuple #[.slice none 0 0, .int .i64 2]) ∧ Below w.heap.size w w' := by
  have HDL := Lib.hid (show d.length = n from hr.length)
  have hsz := mSize_le hh
  have hn64 : n ≤ 64 := by omega
  have HR := Lib.hid hr
  have HN := Lib.hid hn
  obtain ⟨f, hf⟩ : ∃ f, f = 19 + n := ⟨_, rfl⟩
  have hfb : f ≤ 83 := by omega
  have HFF := Lib.hid hf
  have hs2 : size < (f : Int) + 11 ∨ ¬ size < (f : Int) + 11 ∧ 65536 < size := by omega
  clear hr hn hf hsz hs
  rcases hs2 with h2 | ⟨h2, h3⟩
  · have t1 : decide (size < (f : Int) + 11) = true := by simpa using h2
    clear h2
    go_enter Tryd.func33, Tryd.ntmps33
    go_wp2_with fail
    refine (frame_yes h hh a n c d w hk HR.out HN.out).mono ?_
    rintro e w1 ⟨⟨v, rfl, ho⟩, h1⟩
    obtain ⟨fa, fn, fc, rfl, hfn, ho⟩ := own_slM ho
    rw [frameL, List.length_append, frameH_len, HDL.out, ← HFF.out] at hfn
    subst hfn
    have HB1 := Lib.hid h1
    clear ho h1 hk
    go_wp2
    go_ret2
    exact ⟨rfl, HB1.out⟩
  · have t1 : decide (size < (f : Int) + 11) = false := by simpa using h2
    have t2 : decide (65536 < size) = true := by simpa using h3
    clear h2 h3
    go_enter Tryd.func33, Tryd.ntmps33
    go_wp2_with fail
    refine (frame_yes h hh a n c d w hk HR.out HN.out).mono ?_
    rintro e w1 ⟨⟨v, rfl, ho⟩, h1⟩
    obtain ⟨fa, fn, fc, rfl, hfn, ho⟩ := own_slM ho
    rw [frameL, List.length_append, frameH_len, HDL.out, ← HFF.out] at hfn
    subst hfn
    have HB1 := Lib.hid h1
    clear ho h1 hk
    go_wp2
    go_ret2
    exact ⟨rfl, HB1.out⟩

/-- What Frame and Encode answer. -/
def FrameOk (h : Int) (n : Nat) : Prop := IsHash h.toNat ∧ n = mSize h.toNat
instance (h : Int) (n : Nat) : Decidable (FrameOk h n) := by unfold FrameOk IsHash; infer_instance
def frameR (h : Int) (d : List Nat) : List Nat × Int := if FrameOk h d.length then (frameL h.toNat d, 0) else ([], 80)
def encR (h : Int) (d : List Nat) (size : Int) : List Nat × Int := if FrameOk h d.length then (if size < d.length + 30 ∨ 65536 < size then ([], 2) else (encL h.toNat d size.toNat, 0)) else ([], 80)
theorem frameOk_nat {h : Int} {n : Nat} (hf : FrameOk h n) : ∃ k : Nat, h = (k : Int) ∧ IsHash k ∧ n = mSize k := by
  obtain ⟨h1, h2⟩ := hf
  refine ⟨h.toNat, ?_, h1, h2⟩
  have := isHash_lt h1
  omega
theorem frameOk_no {h : Int} {n : Nat} (hf : ¬ FrameOk h n) : ∀ k : Nat, IsHash k → h = (k : Int) → n ≠ mSize k := fun k hk e hn => by
  subst e
  exact hf ⟨hk, hn⟩
theorem frame_any (h : Int) (a : Option Addr) (n c : Nat) (d : List Nat) (w : World) (hk : Kinds w) (hr : Reads .u8 w a n c d) :
    Calls Tryd.prog 43 #[.int .i64 h, .slice a n c] w fun e w' => (∃ v, e = .returned (.tuple #[v, .int .i64 (frameR h d).2]) ∧ OwnQ .u8 5 w.heap.size w' v (frameR h d).1) ∧ Below w.heap.size w w' := by
  have hl := hr.length
  by_cases hf : FrameOk h n
  · have e : frameR h d = (frameL h.toNat d, 0) := by unfold frameR; rw [if_pos (by rw [hl]; exact hf)]
    rw [e]
    obtain ⟨k, rfl, h1, h2⟩ := frameOk_nat hf
    exact frame_yes k h1 a n c d w hk hr h2
  · have e : frameR h d = ([], 80) := by unfold frameR; rw [if_neg (by rw [hl]; exact hf)]
    rw [e]
    exact (frame_no h a n c w hk (frameOk_no hf)).mono fun _ _ ⟨h1, h2⟩ => ⟨⟨_, h1, OwnQ.nil _ _ _ _⟩, h2⟩
theorem encode_any (h : Int) (a : Option Addr) (n c : Nat) (d : List Nat) (size : Int) (w : World) (hk : Kinds w) (hr : Reads .u8 w a n c d) :
    Calls Tryd.prog 33 #[.int .i64 h, .slice a n c, .int .i64 size] w fun e w' => (∃ v, e = .returned (.tuple #[v, .int .i64 (encR h d size).2]) ∧ OwnQ .u8 5 w.heap.size w' v (encR h d size).1) ∧ Below w.heap.size w w' := by
  have hl := hr.length
  by_cases hf : FrameOk h n
  · by_cases hs : size < n + 30 ∨ 65536 < size
    · have e : encR h d size = ([], 2) := by unfold encR; rw [if_pos (by rw [hl]; exact hf), if_pos (by rw [hl]; exact hs)]
      rw [e]
      obtain ⟨k, rfl, h1, h2⟩ := frameOk_nat hf
      exact (encode_noSize k h1 a n c d size w hk hr h2 hs).mono fun _ _ ⟨h1, h2⟩ => ⟨⟨_, h1, OwnQ.nil _ _ _ _⟩, h2⟩
    · have e : encR h d size = (encL h.toNat d size.toNat, 0) := by unfold encR; rw [if_pos (by rw [hl]; exact hf), if_neg (by rw [hl]; exact hs)]
      rw [e]
      obtain ⟨k, rfl, h1, h2⟩ := frameOk_nat hf
      obtain ⟨z, rfl⟩ : ∃ z : Nat, size = (z : Int) := ⟨size.toNat, by omega⟩
      exact encode_yes k h1 a n c d z w hk hr h2 (by omega) (by omega)
  · have e : encR h d size = ([], 80) := by unfold encR; rw [if_neg (by rw [hl]; exact hf)]
    rw [e]
    exact (encode_noFrame h a n c size w hk (frameOk_no hf)).mono fun _ _ ⟨h1, h2⟩ => ⟨⟨_, h1, OwnQ.nil _ _ _ _⟩, h2⟩

end Go.Proofs.YtpefjkndfifceaaDoor

namespace Go.Proofs.YtpefjkndfifceaaDoor
open Go.RowKit

/-- Rotated right, as the library's call has it. -/
def rotr (x a : Nat) : Nat := x * 2 ^ (32 - a) % 4294967296 ||| x / 2 ^ a
theorem rotr_lt {x a : Nat} (h : x < 4294967296) : rotr x a < 4294967296 := Nat.or_lt_two_pow (n := 32) (Nat.mod_lt _ (by decide)) (Nat.lt_of_le_of_lt (Nat.div_le_self _ _) h)
def laidN (x a b c : Nat) : Nat := rotr x a ^^^ rotr x b ^^^ rotr x c
theorem laidN_lt {x a b c : Nat} (h : x < 4294967296) : laidN x a b c < 4294967296 := Nat.xor_lt_two_pow (n := 32) (Nat.xor_lt_two_pow (n := 32) (rotr_lt h) (rotr_lt h)) (rotr_lt h)

end Go.Proofs.YtpefjkndfifceaaDoor

namespace Go.Proofs.YtpefjkndfifceaaDoor
open Go.RowKit

theorem wrap_neg (a : Nat) (h1 : 1 ≤ a) (h2 : a < 32) (s : Nat) (hs : s = 32 - a) : bits BinOp.and IntKind.u64 (IntKind.u64.wrap (-(a : Int))) 31 = (s : Int) := by
  have e : IntKind.u64.wrap (-(a : Int)) = ((18446744073709551616 - a : Nat) : Int) := by
    simp only [IntKind.wrap, IntKind.bits, IntKind.signed]
    simp
    omega
  rw [e, show (31 : Int) = ((31 : Nat) : Int) from rfl, u64_and_nat _ _ (by omega) (by decide), show (31 : Nat) = 2 ^ 5 - 1 from rfl, Nat.and_two_pow_sub_one_eq_mod]
  omega

theorem rot_cast (x s : Nat) (hx : x < 4294967296) (hs : s < 32) : bits BinOp.or IntKind.u32 ((x : Int) * 2 ^ s % 4294967296) ((x : Int) / 2 ^ (32 - s)) = ((x * 2 ^ s % 4294967296 ||| x / 2 ^ (32 - s) : Nat) : Int) := by
  have e1 : (x : Int) * 2 ^ s % 4294967296 = ((x * 2 ^ s % 4294967296 : Nat) : Int) := by rw [Int.natCast_emod, Int.natCast_mul, Int.natCast_pow]; rfl
  have e2 : (x : Int) / 2 ^ (32 - s) = ((x / 2 ^ (32 - s) : Nat) : Int) := by rw [Int.natCast_ediv, Int.natCast_pow]; rfl
  rw [e1, e2, u32_or_nat _ _ (Nat.mod_lt _ (by decide)) (Nat.lt_of_le_of_lt (Nat.div_le_self _ _) hx)]

set_option maxHeartbeats 1000000 in
theorem rot_any (x a : Nat) (k : Int) (w : World) (hk : k = -(a : Int)) (h1 : 1 ≤ a) (h2 : a < 32) (hx : x < 4294967296) (r : Nat) (hr : r = rotr x a) :
    Calls Tryd.prog 86 #[.int .u32 (x : Int), .int .i64 k] w fun e w' => e = .returned (.int .u32 (r : Int)) ∧ w = w' := by
  subst hk
  obtain ⟨s, hs⟩ : ∃ s, s = 32 - a := ⟨_, rfl⟩
  have hw := wrap_neg a h1 h2 s hs
  have hsb : s < 32 := by omega
  have hsb2 : 1 ≤ s := by omega
  have HS := Lib.hid (show 32 - s = a by omega)
  have HR := Lib.hid hr
  clear hs hr
  go_enter Tryd.func86, Tryd.ntmps86
  go_wp2
  go_ret
  exact ⟨by rw [rot_cast x s hx hsb, HS.out, HR.out]; unfold rotr; rw [show 32 - a = s by have := HS.out; omega]; rfl, rfl⟩

set_option maxHeartbeats 1000000 in
theorem laid_any (x a b c : Nat) (ka kb kc : Int) (w : World) (ha : ka = a) (hb : kb = b) (hc : kc = c) (h1 : 1 ≤ a ∧ a < 32) (h2 : 1 ≤ b ∧ b < 32) (h3 : 1 ≤ c ∧ c < 32) (hx : x < 4294967296) (r : Nat) (hr : r = laidN x a b c) :
    Calls Tryd.prog 83 #[.int .u32 (x : Int), .int .i64 ka, .int .i64 kb, .int .i64 kc] w fun e w' => e = .returned (.int .u32 (r : Int)) ∧ w = w' := by
  subst ha hb hc
  obtain ⟨p, hp⟩ : ∃ p, p = rotr x a := ⟨_, rfl⟩
  obtain ⟨q, hq⟩ : ∃ q, q = rotr x b := ⟨_, rfl⟩
  obtain ⟨o, ho⟩ : ∃ o, o = rotr x c := ⟨_, rfl⟩
  have hp2 : p < 4294967296 := hp ▸ rotr_lt hx
  have hq2 : q < 4294967296 := hq ▸ rotr_lt hx
  have ho2 : o < 4294967296 := ho ▸ rotr_lt hx
  have hpq : p ^^^ q < 4294967296 := Nat.xor_lt_two_pow (n := 32) hp2 hq2
  obtain ⟨m, hm⟩ : ∃ m, m = p ^^^ q := ⟨_, rfl⟩
  rw [← hm] at hpq
  have HR := Lib.hid (show r = m ^^^ o by rw [hr, hm, hp, hq, ho]; rfl)
  have HP := Lib.hid hp
  have HQ := Lib.hid hq
  have HO := Lib.hid ho
  have hx1 : bits BinOp.xor IntKind.u32 (p : Int) (q : Int) = (m : Int) := by rw [u32_xor_nat _ _ hp2 hq2, hm]
  have hx2 : bits BinOp.xor IntKind.u32 (m : Int) (o : Int) = (r : Int) := by rw [u32_xor_nat _ _ hpq ho2, HR.out]
  obtain ⟨h11, h12⟩ := h1
  obtain ⟨h21, h22⟩ := h2
  obtain ⟨h31, h32⟩ := h3
  clear hr hp hq ho hm
  go_enter Tryd.func83, Tryd.ntmps83
  go_wp2_with fail
  refine (rot_any x a _ _ rfl h11 h12 hx p HP.out).mono ?_
  rintro e w1 ⟨rfl, rfl⟩
  go_wp2_with fail
  refine (rot_any x b _ _ rfl h21 h22 hx q HQ.out).mono ?_
  rintro e w1 ⟨rfl, rfl⟩
  go_wp2_with fail
  refine (rot_any x c _ _ rfl h31 h32 hx o HO.out).mono ?_
  rintro e w1 ⟨rfl, rfl⟩
  go_wp2
  go_ret
  exact ⟨rfl, rfl⟩

end Go.Proofs.YtpefjkndfifceaaDoor

namespace Go.Proofs.YtpefjkndfifceaaDoor
open Go.RowKit

/-- Numbers as the cells of an array. -/
def arrC (q : IntKind) (l : List Nat) : Array Value := (l.map (num q)).toArray
theorem arrC_size (q : IntKind) (l : List Nat) : (arrC q l).size = l.length := by simp [arrC]
theorem arrC_get (q : IntKind) (l : List Nat) (i : Nat) (h : i < l.length) : (arrC q l)[i]? = some (.int q ((l[i]?.getD 0 : Nat) : Int)) := by simp [arrC, num, h]
theorem arrC_one (q : IntKind) (l : List Nat) : (arrC q l).all (·.oneCell') = true := by
  rw [Array.all_eq_true_iff_forall_mem]
  intro u hu
  have : u ∈ l.map (num q) := by simpa [arrC] using hu
  exact nums_oneCell q l u this
/-- A block that holds an array. -/
def Arr (q : IntKind) (E : TypeId) (w : World) (g : Nat) (l : List Nat) : Prop := w.heap[g]? = some (.cells (arrC q l) E (0, 0))
theorem Arr.lt {q : IntKind} {E g : Nat} {w : World} {l : List Nat} (h : Arr q E w g l) : g < w.heap.size := (Array.getElem?_eq_some_iff.1 h).1
theorem Arr.cell {q : IntKind} {E g : Nat} {w : World} {l : List Nat} (h : Arr q E w g l) (i : Nat) (hi : i < l.length) : w.cell? ⟨g, i, none⟩ = some (.int q ((l[i]?.getD 0 : Nat) : Int)) := by
  rw [cell_of_row w g i _ E (0, 0) h, arrC_get q l i hi]
theorem Arr.frozen {q : IntKind} {E g : Nat} {w : World} {l : List Nat} (h : Arr q E w g l) (i : Nat) : w.frozen? ⟨g, i, none⟩ = false := frozen_of_row w g i _ E h
theorem arrC_set (q : IntKind) (l : List Nat) (i x : Nat) : (arrC q l).setIfInBounds i (num q x) = arrC q (l.set i x) := by
  apply Array.ext'
  simp [arrC, List.map_set]
theorem Arr.stored {q : IntKind} {E g : Nat} {w : World} {l : List Nat} (h : Arr q E w g l) (i x : Nat) (y : Int) (hy : y = (x : Int)) : Arr q E (w.setCell ⟨g, i, none⟩ (.int q y)) g (l.set i x) := by
  subst hy
  have := heap_setCell_same w g i _ E (num q x) h
  unfold Arr
  rw [← arrC_set]
  exact this
theorem Arr.other {q : IntKind} {E g : Nat} {w : World} {l : List Nat} (h : Arr q E w g l) (p : Addr) (v : Value) (hp : g ≠ p.block) : Arr q E (w.setCell p v) g l := (heap_setCell_other w p g v hp).trans h
theorem Arr.alloc {q : IntKind} {E g : Nat} {w : World} {l : List Nat} (h : Arr q E w g l) (o : Obj) : Arr q E (w.alloc o) g l := (Below.heap_alloc w o g h.lt).trans h
theorem Arr.below {q : IntKind} {E g B : Nat} {w w' : World} {l : List Nat} (h : Arr q E w g l) (hb : Below B w w') (hg : g < B) : Arr q E w' g l := (hb.block g hg).trans h
theorem alloc_setRow (w : World) (old cs : Array Value) (E : TypeId) : (w.alloc (.cells old E)).setRow w.heap.size cs = w.alloc (.cells cs E) := by
  cases w with
  | mk heap tape drawn os output =>
    simp only [World.alloc, World.setRow]
    congr 1
    apply Array.ext
    · simp
    · intro k h1 h2
      simp only [Array.getElem_modify]
      split
      · rename_i hk
        subst hk
        simp
      · rename_i hk
        rw [Array.getElem_push, Array.getElem_push]
        split
        · rfl
        · rename_i hk2
          simp at h1
          omega

theorem idx64 (l : List Nat) (i : Nat) (hi : i < 64) (hl : l.length = 64) (w : World) : (Instr.index 106 (.agg (arrC .u32 l)) (.int .i64 (i : Int))).run Tryd.prog w = .ok (.int .u32 ((l[i]?.getD 0 : Nat) : Int)) w := by
  have hu : ∀ w, (underlying 106).run Tryd.prog w = .ok (.array 64 64) w := fun _ => by kernel_rfl
  have hs : ∀ w, (sizeOf 64).run Tryd.prog w = .ok 1 w := fun _ => by kernel_rfl
  have ha : ∀ w, (isAgg 64).run Tryd.prog w = .ok false w := fun _ => by kernel_rfl
  have hg := arrC_get .u32 l i (by omega)
  have hz : i < (arrC .u32 l).size := by rw [arrC_size]; omega
  have h1 : 0 ≤ (i : Int) ∧ (i : Int) < ((64 : Nat) : Int) := by omega
  unfold Instr.index
  simp only [asIntOf, Sem.run_bind, Sem.run_pure, Result.andThen_ok, hu, if_pos h1, hs, Int.toNat_natCast, Nat.mul_one, part, ha]
  rw [hg]
  rfl

end Go.Proofs.YtpefjkndfifceaaDoor
