/-
  Texts of ours, one behind the other: GcdA GcdB InvA MonAC RatB MonDF MonGI RfGs RfK MonQR Rsa4 Rsa5 RsaA Luc RsaP RsaK Rs0 RsaQ RsaF RsaC
-/
import Derived.Test.YtpefjkndfifceaaDoorPk1
import Derived.Test.YtpefjkndfifceaaDoorPk6
import Derived.Test.YtpefjkndfifceaaDoorPk7
import Derived.Test.YtpefjkndfifceaaDoorPk8
import Derived.Test.YtpefjkndfifceaaDoorPk9
import Derived.Laws.CopyOwn
import Derived.Deep.RegionHeld
import Derived.Deep.CutRange
import Derived.Laws.EntriesVeiled
import Derived.OrdersHeld
import Derived.Laws.ResultCell
set_option linter.unusedVariables false
set_option linter.unusedSimpArgs false

namespace Go.Proofs.YtpefjkndfifceaaDoor
open Go.RowKit

theorem natC_uniq {w : World} {v : Value} {n m : Nat} (h : NatC w v n) (k : NatC w v m) : n = m := by
  obtain ⟨a, len, cap, rfl, hr⟩ := h
  obtain ⟨a', len', cap', he, hr'⟩ := k
  cases he
  have hl : nat32 n = nat32 m := by
    apply List.ext_getElem
    · rw [hr.length, hr'.length]
    · intro i h1 h2
      have hi : i < len := by rw [← hr.length]; exact h1
      obtain ⟨b, off, ha, _, hc⟩ := hr.cells (by omega)
      obtain ⟨b', off', ha', _, hc'⟩ := hr'.cells (by omega)
      rw [ha] at ha'
      cases ha'
      have e := (hc i hi).symm.trans (hc' i hi)
      rw [List.getElem?_eq_getElem h1, List.getElem?_eq_getElem h2] at e
      simp at e
      omega
  rw [← val_nat n, ← val_nat m, hl]
theorem eps_nat {w : World} {v : Value} {n : Nat} (h : NatC w v n) : @Classical.epsilon Nat ⟨0⟩ (fun m => NatC w v m) = n := natC_uniq (@Classical.epsilon_spec_aux Nat ⟨0⟩ _ ⟨n, h⟩) h

theorem own_len {E B : Nat} {w : World} {a : Option Addr} {len cap n : Nat} (h : OwnQ .u32 E B w (.slice a len cap) (nat32 n)) : len = (nat32 n).length := h.cap.1
theorem own_zero {E B : Nat} {w : World} {a : Option Addr} {len cap n : Nat} (h : OwnQ .u32 E B w (.slice a len cap) (nat32 n)) : len = 0 ↔ n = 0 := by
  rw [own_len h]
  constructor
  · intro e
    exact (natB_nil (b := 4294967296) (by decide)).1 (List.eq_nil_of_length_eq_zero e)
  · rintro rfl
    rw [show nat32 0 = [] from natB_zero _]; rfl
theorem own_short {E B k : Nat} {w : World} {a : Option Addr} {len cap n : Nat} (h : OwnQ .u32 E B w (.slice a len cap) (nat32 n)) : len ≤ k ↔ n < 4294967296 ^ k := by
  rw [own_len h]
  exact natB_length (by decide) n k

def gcdR (x y : Nat) : List Nat × Int := if x < topN ∧ y < topN then (nat32 (Nat.gcd x y), 0) else ([], 20)
theorem gcdR_yes {x y : Nat} (h : x < topN) (k : y < topN) : gcdR x y = (nat32 (Nat.gcd x y), 0) := if_pos ⟨h, k⟩
theorem gcdR_no {x y : Nat} (h : ¬ (x < topN ∧ y < topN)) : gcdR x y = ([], 20) := if_neg h

end Go.Proofs.YtpefjkndfifceaaDoor

namespace Go.Proofs.YtpefjkndfifceaaDoor
open Go.RowKit

/-- The least number that is no modulus. -/
def topM : Nat := 4294967296 ^ 128
theorem topM_sq : topM * topM = topN := by unfold topM topN; rw [← Nat.pow_add]
theorem topM_pos : 0 < topM := by unfold topM; exact Nat.pow_pos (by decide)
theorem topM_le : topM ≤ topN := by rw [← topM_sq]; exact Nat.le_mul_of_pos_right _ topM_pos

def mulModR (x y m : Nat) : List Nat × Int := if m < topM ∧ x < topN ∧ y < topN then (if m = 0 then ([], 60) else (nat32 (x * y % m), 0)) else ([], 20)
theorem mulModR_yes {x y m : Nat} (h : m < topM) (hx : x < topN) (hy : y < topN) (h0 : 0 < m) : mulModR x y m = (nat32 (x * y % m), 0) := by unfold mulModR; rw [if_pos ⟨h, hx, hy⟩, if_neg (by omega)]
theorem mulModR_zero {x y : Nat} (hx : x < topN) (hy : y < topN) : mulModR x y 0 = ([], 60) := by unfold mulModR; rw [if_pos ⟨topM_pos, hx, hy⟩, if_pos rfl]
theorem mulModR_no {x y m : Nat} (h : ¬ (m < topM ∧ x < topN ∧ y < topN)) : mulModR x y m = ([], 20) := if_neg h

theorem modR_yes {x y : Nat} (h : x < topN) (k : y < topN) (h0 : 0 < y) : modR x y = (nat32 (x % y), 0) := by unfold modR; rw [divR_yes h k h0]
theorem modR_no {x y : Nat} (h : ¬ (x < topN ∧ y < topN)) : modR x y = ([], 20) := by unfold modR; rw [divR_no h]
theorem modR_zero {x : Nat} (h : x < topN) : modR x 0 = ([], 60) := by unfold modR; rw [divR_zero h]

end Go.Proofs.YtpefjkndfifceaaDoor

namespace Go.Proofs.YtpefjkndfifceaaDoor
open Go.RowKit

theorem natAt_uniq {w : World} {v : Value} {n m : Nat} (h : NatAt w v n) (k : NatAt w v m) : n = m := by
  obtain ⟨a, len, cap, l, rfl, hr, hl, rfl⟩ := h
  obtain ⟨a', len', cap', l', he, hr', hl', rfl⟩ := k
  cases he
  have e : l = l' := by
    apply List.ext_getElem
    · rw [hr.length, hr'.length]
    · intro i h1 h2
      have hi : i < len := by rw [← hr.length]; exact h1
      obtain ⟨b, off, ha, _, hc⟩ := hr.cells (by omega)
      obtain ⟨b', off', ha', _, hc'⟩ := hr'.cells (by omega)
      rw [ha] at ha'
      cases ha'
      have e := (hc i hi).symm.trans (hc' i hi)
      rw [List.getElem?_eq_getElem h1, List.getElem?_eq_getElem h2] at e
      simp at e
      omega
  rw [e]
theorem eps_at {w : World} {v : Value} {n : Nat} (h : NatAt w v n) : @Classical.epsilon Nat ⟨0⟩ (fun m => NatAt w v m) = n := natAt_uniq (@Classical.epsilon_spec_aux Nat ⟨0⟩ _ ⟨n, h⟩) h

/-- A slice that is not longer than memory is. -/
def Small (v : Value) : Prop := ∀ a len cap, v = .slice a len cap → len ≤ 288230376151711743
theorem small_own {E B : Nat} {w : World} {v : Value} {n : Nat} (h : OwnQ .u32 E B w v (nat32 n)) (hn : n < topN) : Small v := fun a len cap e => by
  subst e
  have := (own_short (k := 256) h).2 hn
  omega

def invR (x m : Nat) : List Nat × Int := if m < topM ∧ x < topN then (if 2 ≤ m ∧ Nat.gcd m x = 1 then (nat32 (invN x m), 0) else ([], 61)) else ([], 20)
theorem invR_no {x m : Nat} (h : ¬ (m < topM ∧ x < topN)) : invR x m = ([], 20) := if_neg h
theorem invR_none {x m : Nat} (h : m < topM) (k : x < topN) (hn : ¬ (2 ≤ m ∧ Nat.gcd m x = 1)) : invR x m = ([], 61) := by unfold invR; rw [if_pos ⟨h, k⟩, if_neg hn]
theorem invR_yes {x m : Nat} (h : m < topM) (k : x < topN) (h2 : 2 ≤ m) (hg : Nat.gcd m x = 1) : invR x m = (nat32 (invN x m), 0) := by unfold invR; rw [if_pos ⟨h, k⟩, if_pos ⟨h2, hg⟩]

theorem bitsN_pos {n : Nat} : 0 < bitsN n ↔ 0 < n := by
  have := bitsN_le n 0
  omega

theorem of_own (n : Int) (k : Nat) (hk : n = k) (w : World) (hn : k < 18446744073709551616) : Calls Tryd.prog 27 #[.int .u64 n] w fun e w' => (∃ v, e = .returned v ∧ OwnQ .u32 64 w.heap.size w' v (nat32 k)) ∧ Below w.heap.size w w' := of_any n k hk w hn

/-- Between two rounds of Inverse. -/
def InvW (n₀ : Nat) (w5 : World) (M X : Nat) (ev rv fv tv pv : Value) (wr : World) : Prop :=
  ∃ (E R F T : Nat) (s : Int), InvI M X E R F T s ∧ E < topN ∧ R < topN ∧ Small rv ∧ NatAt wr ev E ∧ NatAt wr rv R ∧ OwnQ .u32 64 n₀ wr fv (nat32 F) ∧ OwnQ .u32 64 n₀ wr tv (nat32 T) ∧ pv = .bool (decide (s = 1)) ∧ (s = 1 ∨ s = -1) ∧ Below w5.heap.size w5 wr

end Go.Proofs.YtpefjkndfifceaaDoor

namespace Go.Proofs.YtpefjkndfifceaaDoor
open Go.RowKit

theorem limb_round {l x D : Int} (h : D ∣ l * x - 1) (hV : D * D ∣ 4294967296) : D * D ∣ l * (x * ((2 - l * x) % 4294967296) % 4294967296) - 1 := by
  have e1 : (2 - l * x) % 4294967296 = 2 - l * x + 4294967296 * (-((2 - l * x) / 4294967296)) := by omega
  rw [e1]
  have e2 : x * (2 - l * x + 4294967296 * (-((2 - l * x) / 4294967296))) % 4294967296 = x * (2 - l * x + 4294967296 * (-((2 - l * x) / 4294967296))) + 4294967296 * (-(x * (2 - l * x + 4294967296 * (-((2 - l * x) / 4294967296))) / 4294967296)) := by omega
  rw [e2]
  exact limb_step h hV

theorem limb_end {l : Nat} {x : Int} (h : (4294967296 : Int) ∣ (l : Int) * x - 1) : ∃ m : Nat, -x % 4294967296 = (m : Int) ∧ m < 4294967296 ∧ (m * l + 1) % 4294967296 = 0 := by
  have e0 : -x % 4294967296 = -x + 4294967296 * (-(-x / 4294967296)) := by omega
  have h1 : 0 ≤ -x % 4294967296 := by omega
  have h2 : -x % 4294967296 < 4294967296 := by omega
  rw [e0] at h1 h2 ⊢
  generalize -(-x / 4294967296) = c at *
  refine ⟨(-x + 4294967296 * c).toNat, by omega, by omega, ?_⟩
  obtain ⟨d, hd⟩ := h
  have e : (((-x + 4294967296 * c).toNat * l + 1 : Nat) : Int) = 4294967296 * (c * l - d) := by
    rw [Int.natCast_add, Int.natCast_mul, Int.toNat_of_nonneg h1, Int.add_mul, Int.mul_sub, Int.neg_mul]
    have k1 : 4294967296 * c * (l : Int) = 4294967296 * (c * l) := Int.mul_assoc _ _ _
    have k2 : x * (l : Int) = l * x := Int.mul_comm _ _
    rw [k1, k2]
    simp
    omega
  omega

/-- 'copy' of all of a slice into the beginning of a row of one's own, as an equation for the walk. -/
theorem run_copy_q {P : Program} (q : IntKind) (E : TypeId) (B : Nat) (w : World) (dT sT ty elem : TypeId) (hu : P.underlying dT = some (.slice elem)) (hsz : (P.info? elem).map (·.size) = some 1)
    (g n : Nat) (sp : Option Addr) (sLen sCap : Nat) (L l : List Nat) (hO : OwnQ q E B w (.slice (some ⟨g, 0, none⟩) n n) L) (hr : Reads q w sp sLen sCap l) (hle : sLen ≤ n) :
    ∃ w', (Builtin.copy_ #[dT, sT] ty #[.slice (some ⟨g, 0, none⟩) n n, .slice sp sLen sCap]).run P w = .ok (goInt sLen) w' ∧ OwnQ q E B w' (.slice (some ⟨g, 0, none⟩) n n) (l ++ L.drop sLen) ∧ ∀ w0, Below B w0 w → Below B w0 w' := by
  have hl := hr.length
  rcases Nat.eq_zero_or_pos sLen with rfl | hp
  · obtain rfl : l = [] := List.eq_nil_of_length_eq_zero hl
    exact ⟨w, run_copy_none (P := P) w dT sT ty elem _ sp n n 0 sCap hu hsz (by simp), by simpa using hO, fun _ h => h⟩
  · have hn := hO.cap.1
    have hmax := hO.cap.2.2
    obtain ⟨-, h2⟩ := hO
    rcases h2 with ⟨h2, -⟩ | ⟨g', cap, cur, he, hBg, hg, hnc, hcm, hcs, hct⟩
    · cases h2
    · obtain ⟨rfl, e2, e3⟩ : g' = g ∧ L.length = n ∧ cap = n := by
        injection he with e1 e2 e3
        injection e1 with e1
        injection e1 with e1
        exact ⟨e1.symm, by omega, by omega⟩
      subst e3
      have hcur : cur.toList = L.map (num q) := by
        rw [← hct, List.take_of_length_le (by simp; omega)]
      obtain ⟨ad, rfl⟩ : ∃ ad, sp = some ad := by
        cases sp with
        | none =>
          have h0 := hr.nil rfl
          have h1 := hr.le
          omega
        | some ad => exact ⟨ad, rfl⟩
      have hrun := run_copy_row (P := P) w dT sT ty elem g' 0 cap cap ad sLen sCap cur E (l.map (num q)) hu hsz hg (by rw [List.length_map, hl]; exact (Nat.min_eq_left hle).symm) hr.news (by simp; omega) (nums_oneCell q l)
      rw [List.length_map, hl] at hrun
      refine ⟨_, hrun, ?_, fun w0 hb => below_setRow hb hBg _⟩
      have hlen : (l ++ L.drop sLen).length = cap := by simp; omega
      show World.ownsRow _ _ _ _ _ _ _
      rw [hlen]
      refine ⟨by rw [List.length_map, hlen, Nat.mul_one], .inr ⟨g', cap, _, rfl, hBg, setRow_heap w g' _ _ E _ hg, Nat.le_refl _, hmax, ?_, ?_⟩⟩
      · simp; omega
      · simp only [List.take_zero, List.nil_append, Nat.zero_add]
        rw [List.take_of_length_le (by simp; omega), hcur, List.map_append, List.map_drop]

end Go.Proofs.YtpefjkndfifceaaDoor
namespace Go.Proofs.YtpefjkndfifceaaDoor
open Go.RowKit
/-- A wheel's cells. -/
structure WhlC (w : World) (g : Nat) (a : Option Addr) (c k : Nat) (a1 : Option Addr) (c1 : Nat) (a2 : Option Addr) (c2 n M : Nat) : Prop where
  lt : g < w.heap.size
  m : w.cell? ⟨g, 0, none⟩ = some (.slice a n c)
  minus : w.cell? ⟨g, 1, none⟩ = some (.int .u32 (k : Int))
  one : w.cell? ⟨g, 2, none⟩ = some (.slice a1 n c1)
  square : w.cell? ⟨g, 3, none⟩ = some (.slice a2 n c2)
  rm : Reads .u32 w a n c (nat32 M)
  r1 : Reads .u32 w a1 n c1 (wideN n (radix n % M))
  r2 : Reads .u32 w a2 n c2 (wideN n (radix n * radix n % M))
  kl : k < 4294967296
  inv : (k * M + 1) % 4294967296 = 0
  odd : M % 2 = 1
  three : 3 ≤ M
  small : M < topM
def Whl (w : World) (p : Value) (n M : Nat) : Prop := ∃ g a c k a1 c1 a2 c2, p = .pointer (some ⟨g, 0, none⟩) ∧ WhlC w g a c k a1 c1 a2 c2 n M

theorem WhlC.below {w w' : World} {g c k c1 c2 n M : Nat} {a a1 a2 : Option Addr} (h : WhlC w g a c k a1 c1 a2 c2 n M) (hb : Below w.heap.size w w') : WhlC w' g a c k a1 c1 a2 c2 n M :=
  ⟨Nat.lt_of_lt_of_le h.lt hb.size, (hb.cell (p := ⟨g, 0, none⟩) h.lt).trans h.m, (hb.cell (p := ⟨g, 1, none⟩) h.lt).trans h.minus, (hb.cell (p := ⟨g, 2, none⟩) h.lt).trans h.one, (hb.cell (p := ⟨g, 3, none⟩) h.lt).trans h.square, h.rm.below hb, h.r1.below hb, h.r2.below hb, h.kl, h.inv, h.odd, h.three, h.small⟩
theorem Whl.below {w w' : World} {p : Value} {n M : Nat} (h : Whl w p n M) (hb : Below w.heap.size w w') : Whl w' p n M := by
  obtain ⟨g, a, c, k, a1, c1, a2, c2, rfl, h⟩ := h
  exact ⟨g, a, c, k, a1, c1, a2, c2, rfl, h.below hb⟩
theorem WhlC.len {w : World} {g c k c1 c2 n M : Nat} {a a1 a2 : Option Addr} (h : WhlC w g a c k a1 c1 a2 c2 n M) : (nat32 M).length = n ∧ 1 ≤ n ∧ n ≤ 128 := by
  have h1 := h.rm.length
  have h2 : (nat32 M).length ≤ 128 := (natB_length (b := 4294967296) (by decide) M 128).2 h.small
  refine ⟨h1, ?_, by omega⟩
  apply Nat.pos_of_ne_zero
  intro e
  have := (natB_nil (b := 4294967296) (by decide)).1 (List.eq_nil_of_length_eq_zero (h1.trans e))
  have := h.three
  omega
theorem WhlC.radix {w : World} {g c k c1 c2 n M : Nat} {a a1 a2 : Option Addr} (h : WhlC w g a c k a1 c1 a2 c2 n M) : M < radix n := by
  have h1 := h.len
  exact (natB_length (b := 4294967296) (by decide) M n).1 (Nat.le_of_eq h1.1)

/-- What is left so far, when the modulus is taken. -/
structure RedI (t m P : List Nat) (k b : Nat) : Prop where
  len : P.length = m.length
  lim : Lim P
  bor : b ≤ 1
  val : val32 (P.take k) + val32 (m.take k) = val32 (t.take k) + 4294967296 ^ k * b

theorem redI_start (t m : List Nat) : RedI t m (List.replicate m.length 0) 0 0 := ⟨by simp, fun x hx => by rw [List.eq_of_mem_replicate hx]; decide, by omega, by simp [val32, valB]⟩
theorem redI_step {t m P : List Nat} {k b : Nat} (h : RedI t m P k b) (ht : Lim t) (hm : Lim m) (hk : k < m.length) : RedI t m (P.set k (subD (t[k]?.getD 0) (m[k]?.getD 0) b)) (k + 1) (subB (t[k]?.getD 0) (m[k]?.getD 0) b) := by
  obtain ⟨h1, h2, h3, h4⟩ := h
  have hx := lim_get ht k
  have hy := lim_get hm k
  have e1 := valB_succ (b := 4294967296) t k
  have e2 := valB_succ (b := 4294967296) m k
  generalize t[k]?.getD 0 = x at *
  generalize m[k]?.getD 0 = y at *
  have hd : subD x y b + y + b = x + 4294967296 * subB x y b := by unfold subD subB; split <;> omega
  have hd2 : subD x y b < 4294967296 := by unfold subD; split <;> omega
  have hb2 : subB x y b ≤ 1 := by unfold subB; split <;> omega
  generalize subD x y b = d at *
  generalize subB x y b = b2 at *
  refine ⟨by simp [h1], mem_set h2 hd2, hb2, ?_⟩
  simp only [val32] at *
  rw [take_set_succ _ _ _ (by omega), valB_snoc, List.length_take, Nat.min_eq_left (by omega), e1, e2]
  have e : 4294967296 ^ (k + 1) * b2 = 4294967296 ^ k * (4294967296 * b2) := by rw [Nat.pow_succ, Nat.mul_assoc]
  have e3 : 4294967296 ^ k * (d + y + b) = 4294967296 ^ k * (x + 4294967296 * b2) := by rw [hd]
  rw [Nat.mul_add, Nat.mul_add, Nat.mul_add] at e3
  rw [e]
  omega

end Go.Proofs.YtpefjkndfifceaaDoor
namespace Go.Proofs.YtpefjkndfifceaaDoor
open Go.RowKit
theorem reads_spot {q : IntKind} {w : World} {b off len cap : Nat} {l : List Nat} (h : Reads q w (some ⟨b, off, none⟩) len cap l) (i : Nat) (hi : i < len) : w.cell? ⟨b, off + i, none⟩ = some (.int q ((l[i]?.getD 0 : Nat) : Int)) := by
  obtain ⟨b', off', e, -, hc⟩ := h.cells (by omega)
  cases e
  exact hc i hi
theorem reads_spot0 {q : IntKind} {w : World} {b off len cap : Nat} {l : List Nat} (h : Reads q w (some ⟨b, off, none⟩) len cap l) (hi : 0 < len) : w.cell? ⟨b, off, none⟩ = some (.int q ((l[0]?.getD 0 : Nat) : Int)) := reads_spot h 0 hi
theorem reads_some {q : IntKind} {w : World} {a : Option Addr} {len cap : Nat} {l : List Nat} (h : Reads q w a len cap l) (hi : 0 < len) : ∃ b off, a = some ⟨b, off, none⟩ := by
  obtain ⟨b', off', e, -, -⟩ := h.cells hi
  exact ⟨b', off', e⟩

/-- One step of the first sum, as the walk meets it. -/
structure Sum3 (x y t f p1 p2 F fd : Nat) : Prop where
  e1 : (x : Int) * (y : Int) = (p1 : Int)
  b1 : p1 < 18446744073709551616
  e2 : (p1 : Int) + (t : Int) = (p2 : Int)
  b2 : p2 < 18446744073709551616
  e3 : (F : Int) / 4294967296 = (fd : Int)
  b3 : fd < 4294967296
  e4 : (p2 : Int) + (fd : Int) = (f : Int)
  b4 : f < 18446744073709551616
theorem sum3 {x y t F : Nat} (hx : x < 4294967296) (hy : y < 4294967296) (ht : t < 4294967296) (hF : F < 18446744073709551616) : ∃ f p1 p2 fd, Sum3 x y t f p1 p2 F fd ∧ f = x * y + t + F / 4294967296 := by
  have h : x * y ≤ 4294967295 * 4294967295 := Nat.mul_le_mul (by omega) (by omega)
  exact ⟨x * y + t + F / 4294967296, x * y, x * y + t, F / 4294967296, ⟨by simp, by omega, by omega, by omega, by omega, by omega, by omega, by omega⟩, rfl⟩
/-- The start of a round. -/
structure Sum2 (x y t f p1 : Nat) : Prop where
  e1 : (x : Int) * (y : Int) = (p1 : Int)
  b1 : p1 < 18446744073709551616
  e2 : (p1 : Int) + (t : Int) = (f : Int)
  b2 : f < 18446744073709551616
theorem sum2 {x y t : Nat} (hx : x < 4294967296) (hy : y < 4294967296) (ht : t < 4294967296) : ∃ f p1, Sum2 x y t f p1 ∧ f = x * y + t := by
  have h : x * y ≤ 4294967295 * 4294967295 := Nat.mul_le_mul (by omega) (by omega)
  exact ⟨x * y + t, x * y, ⟨by simp, by omega, by omega, by omega⟩, rfl⟩
theorem low32 (f : Nat) : ∃ m : Nat, (f : Int) % 4294967296 = (m : Int) ∧ m < 4294967296 ∧ m = f % 4294967296 := ⟨f % 4294967296, by omega, by omega, rfl⟩
theorem prod32 (f k : Nat) : ∃ q : Nat, (f : Int) * (k : Int) % 4294967296 = (q : Int) ∧ q < 4294967296 ∧ q = f * k % 4294967296 := ⟨f * k % 4294967296, by rw [← Int.natCast_mul]; omega, by omega, rfl⟩

theorem quot_zero {f k M m0 q : Nat} (hk : (k * M + 1) % 4294967296 = 0) (hm : m0 = M % 4294967296) (hq : q = f % 4294967296 * k % 4294967296) : (q * m0 + f % 4294967296) % 4294967296 = 0 := by
  subst hq hm
  have e1 : (f % 4294967296 * k % 4294967296 * (M % 4294967296) + f % 4294967296) % 4294967296 = (f % 4294967296 * (k * M + 1)) % 4294967296 := by
    rw [Nat.mul_add, Nat.mul_one, ← Nat.mul_assoc]
    rw [Nat.add_mod, Nat.mod_mul_mod, Nat.mul_mod_mod, ← Nat.add_mod]
  rw [e1, Nat.mul_mod, hk, Nat.mul_zero, Nat.zero_mod]

end Go.Proofs.YtpefjkndfifceaaDoor

namespace Go.Proofs.YtpefjkndfifceaaDoor
open Go.RowKit

theorem of_nat (n : Int) (k : Nat) (hk : n = k) (w : World) (hn : k < 18446744073709551616) : Calls Tryd.prog 27 #[.int .u64 n] w fun e w' => (∃ v, e = .returned v ∧ NatC w' v k) ∧ Below w.heap.size w w' :=
  (of_any n k hk w hn).mono fun e w' ⟨⟨v, he, ho⟩, hb⟩ => ⟨⟨v, he, NatC.of ho⟩, hb⟩
theorem natC_slice {w : World} {v : Value} {n : Nat} (h : NatC w v n) : ∃ a cap, v = .slice a (nat32 n).length cap ∧ NatC w (.slice a (nat32 n).length cap) n := by
  obtain ⟨a, len, cap, rfl, hr⟩ := h
  obtain rfl : (nat32 n).length = len := hr.length
  exact ⟨a, cap, rfl, ⟨a, _, cap, rfl, hr⟩⟩
theorem natC_small {w : World} {v : Value} {n : Nat} (h : NatC w v n) (hn : n < topN) : Small v := fun a len cap e => by
  obtain ⟨a', len', cap', rfl, hr⟩ := h
  cases e
  have := (natB_length (b := 4294967296) (by decide) n 256).2 hn
  rw [← hr.length]
  exact Nat.le_trans this (by decide)
theorem lt_topM {n : Nat} (h : n < 4294967296 ^ 2) : n < topM := Nat.lt_of_lt_of_le h (by unfold topM; exact Nat.pow_le_pow_right (by decide) (by decide))

end Go.Proofs.YtpefjkndfifceaaDoor

namespace Go.Proofs.YtpefjkndfifceaaDoor
open Go.RowKit

/-- A natural as wide as the modulus. -/
def WideAt (w : World) (v : Value) (n X : Nat) : Prop := ∃ a c, v = .slice a n c ∧ Reads .u32 w a n c (wideN n X) ∧ X < radix n
theorem WideAt.below {w w' : World} {v : Value} {n X : Nat} (h : WideAt w v n X) (hb : Below w.heap.size w w') : WideAt w' v n X := by
  obtain ⟨a, c, hv, hr, hx⟩ := h
  exact ⟨a, c, hv, hr.below hb, hx⟩
theorem WideAt.of {E B : Nat} {w : World} {v : Value} {n X : Nat} (h : OwnQ .u32 E B w v (wideN n X)) (hX : X < radix n) : WideAt w v n X := by
  obtain ⟨a, m, c, rfl, hm, ho⟩ := h.slice
  obtain rfl : m = n := hm.trans (wideN_len hX)
  exact ⟨a, c, rfl, ho.reads, hX⟩

theorem WhlC.natM {w : World} {g c k c1 c2 n M : Nat} {a a1 a2 : Option Addr} (h : WhlC w g a c k a1 c1 a2 c2 n M) : NatAt w (.slice a n c) M := NatC.at ⟨_, _, _, rfl, h.rm⟩

theorem squareR {n M X : Nat} (hM : 2 ≤ M) (ho : M % 2 = 1) : monN n M (X % M * (radix n * radix n % M)) = X * radix n % M := by
  refine (monN_eq hM ho (Nat.mod_lt _ (by omega)) ?_).symm
  rw [Nat.mul_mod_mod, ← Nat.mul_mod]
  congr 1
  ac_rfl
theorem oneR {n M X : Nat} (hX : X = 1) (z : Nat) : monN n M (z * X) = monN n M z := by rw [hX, Nat.mul_one]

theorem Whl.val {w : World} {p : Value} {n M : Nat} (h : Whl w p n M) : 1 ≤ n ∧ n ≤ 128 ∧ M < radix n ∧ M < topM ∧ 3 ≤ M ∧ M % 2 = 1 := by
  obtain ⟨g, a, c, k, a1, c1, a2, c2, rfl, h⟩ := h
  exact ⟨h.len.2.1, h.len.2.2, h.radix, h.small, h.three, h.odd⟩

end Go.Proofs.YtpefjkndfifceaaDoor
namespace Go.Proofs.YtpefjkndfifceaaDoor
open Go.RowKit
theorem OwnQ.keep {q : IntKind} {E B : Nat} {w w2 : World} {v : Value} {l : List Nat} (h : OwnQ q E B w v l) (hk : ∀ i, B ≤ i → i < w.heap.size → w2.heap[i]? = w.heap[i]?) : OwnQ q E B w2 v l := by
  obtain ⟨h1, h2⟩ := h
  refine ⟨h1, ?_⟩
  rcases h2 with h2 | ⟨g, cap, cur, hv, hB, hg, h3⟩
  · exact .inl h2
  · refine .inr ⟨g, cap, cur, hv, hB, ?_, h3⟩
    rw [hk g hB (Array.getElem?_eq_some_iff.1 hg).1]
    exact hg

/-- A wheel that hangs on the blocks from B on alone. -/
def WhlFrom (B : Nat) (w : World) (p : Value) (n M : Nat) : Prop := ∀ w2 : World, w.heap.size ≤ w2.heap.size → (∀ i, B ≤ i → i < w.heap.size → w2.heap[i]? = w.heap[i]?) → Whl w2 p n M
theorem WhlFrom.whl {B n M : Nat} {w : World} {p : Value} (h : WhlFrom B w p n M) : Whl w p n M := h w (Nat.le_refl _) (fun _ _ _ => rfl)
theorem WhlFrom.mono {B B' n M : Nat} {w : World} {p : Value} (h : WhlFrom B w p n M) (hB : B' ≤ B) : WhlFrom B' w p n M := fun w2 h1 h2 => h w2 h1 (fun i hi hl => h2 i (by omega) hl)

theorem WhlFrom.new {B n M k : Nat} {E : TypeId} {w : World} {a a1 a2 : Option Addr} {c c1 c2 : Nat} {vm v1 v2 : Value} (hB : B ≤ w.heap.size) (hm : OwnQ .u32 64 B w vm (nat32 M)) (h1 : OwnQ .u32 64 B w v1 (wideN n (radix n % M))) (h2 : OwnQ .u32 64 B w v2 (wideN n (radix n * radix n % M)))
    (em : vm = .slice a n c) (e1 : v1 = .slice a1 n c1) (e2 : v2 = .slice a2 n c2) (kl : k < 4294967296) (inv : (k * M + 1) % 4294967296 = 0) (odd : M % 2 = 1) (three : 3 ≤ M) (small : M < topM) :
    WhlFrom B (w.alloc (.cells #[vm, .int .u32 (k : Int), v1, v2] E)) (.pointer (some ⟨w.heap.size, 0, none⟩)) n M := by
  subst em e1 e2
  intro w2 hs hk
  rw [World.size_alloc] at hs hk
  have hk2 : ∀ i, B ≤ i → i < w.heap.size → w2.heap[i]? = w.heap[i]? := fun i hi hl => by
    rw [hk i hi (by omega)]
    exact ((Below.refl w.heap.size w).alloc (Nat.le_refl _) _).block i hl
  have hg : w2.heap[w.heap.size]? = some (.cells #[.slice a n c, .int .u32 (k : Int), .slice a1 n c1, .slice a2 n c2] E (0, 0)) := by
    rw [hk _ hB (by omega)]
    exact heap_alloc_new w _
  refine ⟨w.heap.size, a, c, k, a1, c1, a2, c2, rfl, ?_⟩
  refine ⟨by omega, ?_, ?_, ?_, ?_, (hm.keep hk2).reads, (h1.keep hk2).reads, (h2.keep hk2).reads, kl, inv, odd, three, small⟩
  all_goals
    rw [cell_of_row w2 w.heap.size _ _ E (0, 0) hg]
    rfl

theorem testBit_odd {M : Nat} (h : M % 2 = 1) : M.testBit 0 = true := by simp [Nat.testBit_zero, h]
theorem testBit_even {M : Nat} (h : ¬ M % 2 = 1) : M.testBit 0 = false := by simp [Nat.testBit_zero]; omega

theorem radix_le {n : Nat} (h : n ≤ 128) : radix n < topN := by
  have h1 : radix n ≤ topM := Nat.pow_le_pow_right (by decide) h
  have h2 : topM < topN := by
    unfold topM topN
    exact Nat.pow_lt_pow_right (by decide) (by decide)
  omega

end Go.Proofs.YtpefjkndfifceaaDoor
namespace Go.Proofs.YtpefjkndfifceaaDoor
open Go.RowKit
theorem natAt_nil (w : World) : NatAt w (.slice none 0 0) 0 := ⟨none, 0, 0, [], rfl, Reads.none _ _, fun x hx => (by cases hx), rfl⟩

def inR (n M X : Nat) : List Nat × Int := if X < topN then (nat32 (X * radix n % M), 0) else ([], 20)
theorem inR_yes {n M X : Nat} (h : X < topN) : inR n M X = (nat32 (X * radix n % M), 0) := if_pos h
theorem inR_no {n M X : Nat} (h : ¬ X < topN) : inR n M X = ([], 20) := if_neg h
def outR (n M X : Nat) : List Nat × Int := if X < M then (nat32 (monN n M X), 0) else ([], 70)
theorem outR_yes {n M X : Nat} (h : X < M) : outR n M X = (nat32 (monN n M X), 0) := if_pos h
theorem outR_no {n M X : Nat} (h : ¬ X < M) : outR n M X = ([], 70) := if_neg h
def productR (n M X Y : Nat) : List Nat × Int := if X < M ∧ Y < M then (nat32 (monN n M (X * Y)), 0) else ([], 70)
theorem productR_yes {n M X Y : Nat} (h : X < M) (k : Y < M) : productR n M X Y = (nat32 (monN n M (X * Y)), 0) := if_pos ⟨h, k⟩
theorem productR_no {n M X Y : Nat} (h : ¬ (X < M ∧ Y < M)) : productR n M X Y = ([], 70) := if_neg h

end Go.Proofs.YtpefjkndfifceaaDoor

namespace Go.Proofs.YtpefjkndfifceaaDoor
open Go.RowKit Go.Shelf
attribute [local go_sem] Oper.semAt_some

theorem Reads.keptCells {q : IntKind} {W W' : World} {row : Option Nat} {a : Option Addr} {len cap : Nat} {l : List Nat} (h : Reads q W a len cap l) (hg : W.grownBy W' row) (hr : ∀ r, row = some r → ∃ o : Obj, W.heap[r]? = some o ∧ o.isCells = false) : Reads q W' a len cap l :=
  ⟨h.length, h.le, h.max, h.nil, fun hp => by
    obtain ⟨b, off, rfl, hb, hc⟩ := h.cells hp
    refine ⟨b, off, rfl, Nat.lt_of_lt_of_le hb hg.size, fun i hi => ?_⟩
    have h1 := hc i hi
    refine (World.cell?_of_block (hg.block b hb ?_)).trans h1
    intro e
    obtain ⟨o, ho, hcl⟩ := hr b e.symm
    simp only [World.cell?, ho] at h1
    cases o <;> simp_all [Obj.isCells]⟩

/-- What a round keeps: all below n₀, and a box. -/
def KpB (n₀ b : Nat) (W W' : World) : Prop := Below n₀ W W' ∧ ∀ t v, Boxed W b t v → Boxed W' b t v
theorem kpB_t {n₀ b : Nat} {A B C : World} (h : KpB n₀ b A B) (k : KpB n₀ b B C) : KpB n₀ b A C := ⟨h.1.trans k.1, fun t v x => k.2 t v (h.2 t v x)⟩
theorem kpB_b {n₀ b : Nat} {w : World} (hn : n₀ ≤ w.heap.size) (W : World) (l : Nat) (o o' : Obj) (hl : w.heap.size ≤ l) (h : W.heap[l]? = some o) (hc : o.isCells = false) (hw : o.isWalk = false) : KpB n₀ b W (W.putObj l o') :=
  ⟨belowK_b hn W l o o' hl h hc hw, fun _ _ x => boxed_putObj x l o o' h hc⟩

abbrev encB {m : Nat} (f : Nat → Bool) (x : Place m) : Array Value := #[.bool (f x.1)]

end Go.Proofs.YtpefjkndfifceaaDoor
namespace Go.Proofs.YtpefjkndfifceaaDoor
open Go.RowKit Go.Shelf
attribute [local go_sem] Oper.semAt_some
theorem pairA (w : World) (T T' : TypeId) (f v : Value) : Hid (Boxed ((w.alloc (.cells #[f] T)).alloc (.cells #[v] T')).drew w.heap.size T f ∧ Boxed ((w.alloc (.cells #[f] T)).alloc (.cells #[v] T')).drew (w.heap.size + 1) T' v ∧ w.heap.size ≠ w.heap.size + 1 ∧ w.heap.size ≤ w.heap.size ∧ w.heap.size ≤ w.heap.size + 1 ∧ Below w.heap.size w ((w.alloc (.cells #[f] T)).alloc (.cells #[v] T')).drew) := by
  refine ⟨(Boxed.new w T f).alloc (.cells #[v] T'), ?_, by omega, by omega, by omega, (((Below.refl w.heap.size w).alloc (Nat.le_refl _) _).alloc (by simp) _).drew⟩
  have h := Boxed.new (w.alloc (.cells #[f] T)) T' v
  simp only [World.size_alloc] at h
  exact h
theorem pairB (w : World) (T T' : TypeId) (f v : Value) : Hid (Boxed ((w.alloc (.cells #[v] T')).alloc (.cells #[f] T)).drew (w.heap.size + 1) T f ∧ Boxed ((w.alloc (.cells #[v] T')).alloc (.cells #[f] T)).drew w.heap.size T' v ∧ w.heap.size + 1 ≠ w.heap.size ∧ w.heap.size ≤ w.heap.size + 1 ∧ w.heap.size ≤ w.heap.size ∧ Below w.heap.size w ((w.alloc (.cells #[v] T')).alloc (.cells #[f] T)).drew) := by
  refine ⟨?_, (Boxed.new w T' v).alloc (.cells #[f] T), by omega, by omega, by omega, (((Below.refl w.heap.size w).alloc (Nat.le_refl _) _).alloc (by simp) _).drew⟩
  have h := Boxed.new (w.alloc (.cells #[v] T')) T f
  simp only [World.size_alloc] at h
  exact h

theorem below_keeps {W W' : World} (h : Below W.heap.size W W') : KeepsOthers W W' := ⟨h.size, fun k o hk _ => (h.block k (Array.getElem?_eq_some_iff.1 hk).1).trans hk⟩

theorem pow_zero_bits {K m : Nat} (h : m = bitsN K) : K / 2 ^ m = 0 := Nat.div_eq_of_lt ((bitsN_le K m).1 (by omega))
theorem pow_step0 {X K M n j : Nat} (hM : 2 ≤ M) (ho : M % 2 = 1) (hb : K.testBit j = false) : monN n M (X ^ (K / 2 ^ (j + 1)) * radix n % M * (X ^ (K / 2 ^ (j + 1)) * radix n % M)) = X ^ (K / 2 ^ j) * radix n % M := by
  rw [monN_both hM ho, ← Nat.pow_add]
  have h : K / 2 ^ j = K / 2 ^ (j + 1) + K / 2 ^ (j + 1) := by
    rw [Nat.testBit_eq_decide_div_mod_eq] at hb
    have hb2 := of_decide_eq_false hb
    rw [Nat.pow_succ, ← Nat.div_div_eq_div_mul]
    omega
  rw [h]
theorem pow_step1 {X K M n j : Nat} (hM : 2 ≤ M) (ho : M % 2 = 1) (hb : K.testBit j = true) : monN n M (monN n M (X ^ (K / 2 ^ (j + 1)) * radix n % M * (X ^ (K / 2 ^ (j + 1)) * radix n % M)) * (X * radix n % M)) = X ^ (K / 2 ^ j) * radix n % M := by
  rw [monN_both hM ho, monN_both hM ho, ← Nat.pow_add]
  have h : K / 2 ^ j = K / 2 ^ (j + 1) + K / 2 ^ (j + 1) + 1 := by
    rw [Nat.testBit_eq_decide_div_mod_eq] at hb
    have hb2 := of_decide_eq_true hb
    rw [Nat.pow_succ, ← Nat.div_div_eq_div_mul]
    omega
  rw [h, show X ^ (K / 2 ^ (j + 1) + K / 2 ^ (j + 1) + 1) = X ^ (K / 2 ^ (j + 1) + K / 2 ^ (j + 1)) * X from Nat.pow_succ ..]

end Go.Proofs.YtpefjkndfifceaaDoor
namespace Go.Proofs.YtpefjkndfifceaaDoor
open Go.RowKit
def powR (M X K : Nat) : List Nat × Int := if X < topN ∧ K < topN then (nat32 (X ^ K % M), 0) else ([], 20)
theorem powR_yes {M X K : Nat} (h : X < topN) (k : K < topN) : powR M X K = (nat32 (X ^ K % M), 0) := if_pos ⟨h, k⟩
theorem powR_no {M X K : Nat} (h : ¬ (X < topN ∧ K < topN)) : powR M X K = ([], 20) := if_neg h

def Mod3 (M : Nat) : Prop := M < topM ∧ 3 ≤ M ∧ M % 2 = 1

end Go.Proofs.YtpefjkndfifceaaDoor

namespace Go.Proofs.YtpefjkndfifceaaDoor
open Go.RowKit

theorem topM_256 (m : Nat) (h : m = 512) : topM = 256 ^ m := by
  obtain ⟨t, ht⟩ : ∃ t, t = 128 := ⟨_, rfl⟩
  have e : m = 4 * t := by omega
  rw [e, ← pow32, ht]
  rfl

/-- How far the product has fallen behind k turns. -/
def EuI (A B P k : Nat) : Prop := (k = 0 ∧ A * B ≤ P) ∨ ∃ j, k = j + 1 ∧ B ≤ A ∧ 2 ^ j * (A * B) ≤ P

theorem EuI.start (A B : Nat) : EuI A B (A * B) 0 := .inl ⟨rfl, Nat.le_refl _⟩
theorem EuI.step {A B P k : Nat} (h : EuI A B P k) (hB : 0 < B) : EuI B (A % B) P (k + 1) := by
  have hm := Nat.mod_lt A hB
  rcases h with ⟨rfl, h⟩ | ⟨j, rfl, hle, h⟩
  · refine .inr ⟨0, rfl, Nat.le_of_lt hm, ?_⟩
    have h1 : B * (A % B) ≤ B * A := Nat.mul_le_mul_left _ (Nat.mod_le _ _)
    rw [Nat.mul_comm B A] at h1
    simp
    omega
  · refine .inr ⟨j + 1, rfl, Nat.le_of_lt hm, ?_⟩
    have hd := Nat.mod_add_div A B
    have hq : 1 ≤ A / B := (Nat.le_div_iff_mul_le hB).2 (by omega)
    have hBq : B * 1 ≤ B * (A / B) := Nat.mul_le_mul_left _ hq
    have h2 : 2 * (A % B) ≤ A := by omega
    have h3 : B * (2 * (A % B)) ≤ B * A := Nat.mul_le_mul_left _ h2
    have h4 : 2 ^ j * (B * (2 * (A % B))) ≤ 2 ^ j * (B * A) := Nat.mul_le_mul_left _ h3
    have e : 2 ^ (j + 1) * (B * (A % B)) = 2 ^ j * (B * (2 * (A % B))) := by
      rw [Nat.pow_succ, Nat.mul_assoc, ← Nat.mul_assoc 2, ← Nat.mul_assoc B, Nat.mul_comm 2 B]
    rw [e]
    rw [Nat.mul_comm B A] at h4
    omega
theorem EuI.few {A B P k E : Nat} (h : EuI A B P k) (hB : 0 < B) (hP : P < 2 ^ E) : k ≤ E := by
  rcases h with ⟨rfl, -⟩ | ⟨j, rfl, hle, h⟩
  · exact Nat.zero_le _
  · have hp : 1 ≤ A * B := Nat.mul_pos (by omega) hB
    have h1 : 2 ^ j * 1 ≤ 2 ^ j * (A * B) := Nat.mul_le_mul_left _ hp
    have h2 : 2 ^ j < 2 ^ E := by omega
    exact (Nat.pow_lt_pow_iff_right (by decide)).1 h2

/-- A natural in a slice that is not too long for the reference. -/
def NatS (w : World) (v : Value) (n : Nat) : Prop := ∃ a len cap l, v = .slice a len cap ∧ Reads .u32 w a len cap l ∧ Lim l ∧ val32 l = n ∧ len ≤ 1000000000000
theorem NatS.below {w w' : World} {v : Value} {n : Nat} (h : NatS w v n) (hb : Below w.heap.size w w') : NatS w' v n := by
  obtain ⟨a, len, cap, l, hv, hr, hl, hn, hm⟩ := h
  exact ⟨a, len, cap, l, hv, hr.below hb, hl, hn, hm⟩
theorem NatS.of {E B : Nat} {w : World} {v : Value} {n : Nat} (h : OwnQ .u32 E B w v (nat32 n)) (hn : n < topN) : NatS w v n := by
  obtain ⟨a, len, cap, rfl, hl, ho⟩ := h.slice
  have := (own_short (k := 256) ho).2 hn
  exact ⟨a, len, cap, nat32 n, rfl, ho.reads, natB_digit (by decide) _, natB_val (by decide) _, by omega⟩
theorem NatS.at {w : World} {v : Value} {n : Nat} (h : NatS w v n) : NatAt w v n := by
  obtain ⟨a, len, cap, l, hv, hr, hl, hn, _⟩ := h
  exact ⟨a, len, cap, l, hv, hr, hl, hn⟩
theorem NatS.nil (w : World) : NatS w (.slice none 0 0) 0 := ⟨none, 0, 0, [], rfl, Reads.none _ _, fun x hx => (by cases hx), rfl, by omega⟩
theorem NatS.one (w : World) (E : TypeId) : NatS (w.alloc (.cells #[.int .u32 1] E)) (.slice (some ⟨w.heap.size, 0, none⟩) 1 1) 1 := ⟨_, 1, 1, [1], rfl, Reads.one .u32 _ _ _ _ rfl, fun x hx => by
  obtain rfl := List.mem_singleton.1 hx
  decide, rfl, by omega⟩
theorem NatS.lim {w : World} {a : Option Addr} {len cap : Nat} {l : List Nat} (hr : Reads .u32 w a len cap l) (hl : Lim l) (hm : len ≤ 1000000000000) : NatS w (.slice a len cap) (val32 l) := ⟨a, len, cap, l, rfl, hr, hl, rfl, hm⟩

namespace rf

theorem cmp_s {x y : Value} {X Y : Nat} {w : World} (hx : NatS w x X) (hy : NatS w y Y) (r : Int) (h : r = ordR X Y) : Calls Tryd.prog 17 #[x, y] w fun e w' => e = .returned (.int .i64 r) ∧ Below w.heap.size w w' := by
  obtain ⟨a, n, c, l, rfl, hr, hl, rfl, hm⟩ := hx
  obtain ⟨a', n', c', l', rfl, hr', hl', rfl, hm'⟩ := hy
  exact cmp_any a a' n c n' c' l l' w hr hr' hl hl' hm hm' r h
theorem digits_s {x : Value} {X : Nat} {w : World} (hx : NatS w x X) : Calls Tryd.prog 30 #[x] w fun e w' => RetsQ .i64 3 w.heap.size w' (natB 256 X) e ∧ Below w.heap.size w w' := by
  obtain ⟨a, n, c, l, rfl, hr, hl, rfl, hm⟩ := hx
  exact digits_any a n c l w hr hl hm

end rf

end Go.Proofs.YtpefjkndfifceaaDoor

namespace Go.Proofs.YtpefjkndfifceaaDoor
open Go.RowKit
namespace rf

end rf
end Go.Proofs.YtpefjkndfifceaaDoor
namespace Go.Proofs.YtpefjkndfifceaaDoor
open Go.RowKit
namespace rf
theorem byt_len {n m : Nat} (h : n < topN) (hm : (natB 256 n).length = m) : m ≤ 1024 := by
  rw [← hm]
  exact (nat256_le n).2 h

end rf
end Go.Proofs.YtpefjkndfifceaaDoor
namespace Go.Proofs.YtpefjkndfifceaaDoor
open Go.RowKit
namespace rf
/-- Between two rounds: what each rest is, as so many times the number. -/
structure RInv (M X A B S T : Nat) : Prop where
  gcd : Nat.gcd A B = Nat.gcd M X
  pos : 0 < A
  le : A ≤ M
  lt : B < M
  s : S < M
  t : T < M
  elder : (M : Int) ∣ (A : Int) - S * X
  rest : (M : Int) ∣ (B : Int) - T * X

theorem rinv_ring (r B q S T M c X : Int) : r - (S - q * T + M * c) * X = (r + B * q - S * X) - q * (B - T * X) - M * (c * X) := by
  have e1 : q * T * X = q * (T * X) := Int.mul_assoc _ _ _
  have e2 : B * q = q * B := Int.mul_comm _ _
  have e3 : M * c * X = M * (c * X) := Int.mul_assoc _ _ _
  simp only [Int.sub_mul, Int.add_mul, Int.mul_sub]
  omega

theorem RInv.start {M X : Nat} (h2 : 2 ≤ M) : RInv M X M (X % M) 0 1 := by
  refine ⟨?_, by omega, Nat.le_refl _, Nat.mod_lt _ (by omega), by omega, by omega, by simp, ?_⟩
  · rw [Nat.gcd_comm M (X % M), ← Nat.gcd_rec]
  · refine ⟨-((X / M : Nat) : Int), ?_⟩
    have h := Nat.mod_add_div X M
    have h2 : (X : Int) = ((X % M : Nat) : Int) + (M : Int) * ((X / M : Nat) : Int) := by rw [← Int.natCast_mul, ← Int.natCast_add, h]
    rw [Int.mul_neg]
    omega

theorem next_eq {M q S T : Nat} (hM : 0 < M) : ∃ c : Int, (((S + M - q * T % M) % M : Nat) : Int) = (S : Int) - (q : Int) * T + M * c := by
  have h1 := Nat.mod_lt (q * T) hM
  have h2 := Nat.mod_add_div (q * T) M
  have h3 := Nat.mod_add_div (S + M - q * T % M) M
  refine ⟨1 + ((q * T / M : Nat) : Int) - (((S + M - q * T % M) / M : Nat) : Int), ?_⟩
  rw [Int.mul_sub, Int.mul_add, Int.mul_one, ← Int.natCast_mul, ← Int.natCast_mul, ← Int.natCast_mul]
  generalize M * (q * T / M) = u at *
  generalize M * ((S + M - q * T % M) / M) = v at *
  generalize (S + M - q * T % M) % M = z at *
  generalize q * T % M = p at *
  generalize q * T = g at *
  omega

theorem RInv.step {M X A B S T : Nat} (h : RInv M X A B S T) (hB : 0 < B) : RInv M X B (A % B) T ((S + M - A / B * T % M) % M) := by
  obtain ⟨h1, h2, h3, h4, h5, h6, h7, h8⟩ := h
  have hM : 0 < M := by omega
  have hm := Nat.mod_lt A hB
  refine ⟨?_, hB, Nat.le_of_lt h4, by omega, h6, Nat.mod_lt _ hM, h8, ?_⟩
  · rw [← h1, Nat.gcd_comm B, ← Nat.gcd_rec, Nat.gcd_comm]
  · obtain ⟨c, hc⟩ := next_eq (M := M) (q := A / B) (S := S) (T := T) hM
    have hq := Nat.mod_add_div A B
    have hq2 : (A : Int) = ((A % B : Nat) : Int) + (B : Int) * ((A / B : Nat) : Int) := by rw [← Int.natCast_mul, ← Int.natCast_add, hq]
    rw [hc, rinv_ring _ (B : Int), ← hq2]
    exact Int.dvd_sub (Int.dvd_sub h7 (Int.dvd_mul_of_dvd_right h8)) ⟨_, rfl⟩

theorem RInv.fin {M X S T : Nat} (h : RInv M X 1 0 S T) (hM : 2 ≤ M) : invN X M = S := by
  refine invN_eq h.s (mod_of_dvd hM ?_)
  have := h.elder
  rw [Int.natCast_mul, Int.mul_comm (X : Int)]
  exact this

theorem len_pos {E B n len cap : Nat} {w : World} {a : Option Addr} (h : OwnQ .u32 E B w (.slice a len cap) (nat32 n)) (hn : 0 < n) : 0 < len := Nat.pos_of_ne_zero fun e => by
  have := (own_zero h).1 e
  omega

end rf
end Go.Proofs.YtpefjkndfifceaaDoor

namespace Go.Proofs.YtpefjkndfifceaaDoor
open Go.RowKit
namespace rf

theorem ordR_le1 {M : Nat} (h : ¬ 2 ≤ M) : ∃ o : Int, o = ordR M 1 ∧ o ≤ 0 := ⟨_, rfl, by unfold ordR; split <;> (try split) <;> omega⟩

end rf
end Go.Proofs.YtpefjkndfifceaaDoor

namespace Go.Proofs.YtpefjkndfifceaaDoor
open Go.RowKit

instance (M : Nat) : Decidable (Mod3 M) := by unfold Mod3; infer_instance

namespace rf

theorem bit_s {x : Value} {X : Nat} {w : World} (hx : NatS w x X) (i : Int) (hi : i ≤ 9223372036854775807) (r : Bool) (h : r = (decide (0 ≤ i) && X.testBit i.toNat)) : Calls Tryd.prog 16 #[x, .int .i64 i] w fun e w' => e = .returned (.bool r) ∧ Below w.heap.size w w' := by
  obtain ⟨a, n, c, l, rfl, hr, hl, rfl, hm⟩ := hx
  exact bit_any a n c l w hr hl hm i hi r h
theorem bits_s {x : Value} {X : Nat} {w : World} (hx : NatS w x X) (b : Nat) (h : b = Go.Proofs.YtpefjkndfifceaaDoor.bitsN X) : Calls Tryd.prog 15 #[x] w fun e w' => e = .returned (.int .i64 (b : Int)) ∧ Below w.heap.size w w' := by
  obtain ⟨a, n, c, l, rfl, hr, hl, rfl, hm⟩ := hx
  exact bits_any a n c l w hr hl hm b h

theorem mod3_bits (M : Nat) : decide (Mod3 M) = (decide (M < topM) && M.testBit 0 && decide (0 < ordR M 1)) := by
  by_cases h1 : M < topM
  · by_cases h2 : M % 2 = 1
    · rw [testBit_odd h2, decide_eq_true h1]
      by_cases h3 : 3 ≤ M
      · rw [decide_eq_true (show Mod3 M from ⟨h1, h3, h2⟩), ordR_gt (by omega)]
        rfl
      · rw [decide_eq_false (show ¬ Mod3 M from fun h => h3 h.2.1), ordR_eq (show M = 1 by omega)]
        rfl
    · rw [testBit_even h2, decide_eq_false (show ¬ Mod3 M from fun h => h2 h.2.2)]
      simp
  · rw [decide_eq_false h1, decide_eq_false (show ¬ Mod3 M from fun h => h1 h.1)]
    simp

theorem limbs_up {M b : Nat} (h : b = Go.Proofs.YtpefjkndfifceaaDoor.bitsN M) : (b + 31) / 32 = (nat32 M).length := by
  have key : ∀ k, (nat32 M).length ≤ k ↔ b ≤ 32 * k := fun k => by
    rw [natB_length (b := 4294967296) (by decide), h, Go.Proofs.YtpefjkndfifceaaDoor.bitsN_le]
    rw [show (4294967296 : Nat) ^ k = 2 ^ (32 * k) by rw [Nat.pow_mul]]
  have h1 := (key _).1 (Nat.le_refl _)
  have h2 := (key ((b + 31) / 32)).2 (by omega)
  omega

theorem natS_radix {B n : Nat} {w : World} {v : Value} (h : OwnQ .u32 64 B w v ((List.replicate (n + 1) 0).set n 1)) (hn : n ≤ 100000) : NatS w v (radix n) := by
  obtain ⟨a, len, c, rfl, hl, ho⟩ := own_slice h
  refine ⟨a, len, c, _, rfl, ho.reads, ?_, ?_, by simp at hl; omega⟩
  · intro x hx
    rcases List.mem_or_eq_of_mem_set hx with h | h
    · rw [List.eq_of_mem_replicate h]; decide
    · rw [h]; decide
  · have := valB_set 4294967296 (List.replicate (n + 1) 0) n 1 (by simp)
    simp only [val32]
    rw [valB_zeros] at this
    simp at this
    exact this

theorem invR_radix {n M : Nat} (hM : Mod3 M) (hn : n ≤ 128) : invR (radix n) M = (nat32 (invN (radix n) M), 0) := invR_yes hM.1 (radix_le hn) (by have := hM.2.1; omega) (gcd_radix hM.2.2 n)
theorem invR_lt {n M : Nat} (hM : Mod3 M) : invN (radix n) M < M := (mon_inv (by have := hM.2.1; omega) (gcd_radix hM.2.2 n)).1
theorem len128 {M : Nat} (hM : Mod3 M) : (nat32 M).length ≤ 128 := (natB_length (b := 4294967296) (by decide) M 128).2 hM.1

theorem prod_form (n M X Y : Nat) : X * Y % M * invN (radix n) M % M = monN n M (X * Y) := by unfold monN; rw [Nat.mod_mul_mod]

end rf
end Go.Proofs.YtpefjkndfifceaaDoor
namespace Go.Proofs.YtpefjkndfifceaaDoor
open Go.RowKit
namespace rf
theorem low_step {X K M i : Nat} (hb : K.testBit i = true) : X ^ (K % 2 ^ i) % M * (X ^ 2 ^ i % M) % M = X ^ (K % 2 ^ (i + 1)) % M := by
  rw [← Nat.mul_mod, ← Nat.pow_add]
  congr 2
  rw [Nat.testBit_eq_decide_div_mod_eq] at hb
  have h := of_decide_eq_true hb
  rw [Nat.pow_succ, Nat.mod_mul, h, Nat.mul_one]
theorem low_stay {X K M i : Nat} (hb : K.testBit i = false) : X ^ (K % 2 ^ i) % M = X ^ (K % 2 ^ (i + 1)) % M := by
  congr 2
  rw [Nat.testBit_eq_decide_div_mod_eq] at hb
  have h := of_decide_eq_false hb
  have h2 : K / 2 ^ i % 2 = 0 := by omega
  rw [Nat.pow_succ, Nat.mod_mul, h2, Nat.mul_zero, Nat.add_zero]
theorem by_step {X M i : Nat} : X ^ 2 ^ i % M * (X ^ 2 ^ i % M) % M = X ^ 2 ^ (i + 1) % M := by
  rw [← Nat.mul_mod, ← Nat.pow_add]
  congr 2
  rw [Nat.pow_succ]
  omega
theorem low_all {K b : Nat} (h : b = Go.Proofs.YtpefjkndfifceaaDoor.bitsN K) : K % 2 ^ b = K := Nat.mod_eq_of_lt ((Go.Proofs.YtpefjkndfifceaaDoor.bitsN_le K b).1 (by omega))

/-- A natural in a slice that is trimmed, or a 1. -/
theorem one_own (B : Nat) (w : World) (hB : B ≤ w.heap.size) : OwnQ .u32 64 B (w.alloc (.cells #[.int .u32 1] 64)) (.slice (some ⟨w.heap.size, 0, none⟩) 1 1) (nat32 1) := by
  rw [show nat32 1 = [1] from nat32_lit [1] 1 (fun x hx => by obtain rfl := List.mem_singleton.1 hx; decide) (by decide) rfl]
  exact OwnQ.one .u32 w _ B hB 1 1 rfl

end rf
end Go.Proofs.YtpefjkndfifceaaDoor

namespace Go.Proofs.YtpefjkndfifceaaDoor
open Go.RowKit
set_option maxRecDepth 100000

theorem byte_small {l : List Nat} (hb : Byt l) (h : l.length ≤ 1024) : valB 256 l.reverse < topN := by
  have h1 := valB_lt (b := 256) (by decide) (l := l.reverse) (fun x hx => hb x (List.mem_reverse.1 hx))
  rw [List.length_reverse] at h1
  exact top_of topN_256 h h1
/-- Bytes raised by a power. -/
def raiseV (N B Y : List Nat) : List UInt8 × Int := if nV B < nV N then Oc.padR (u8s (natB 256 (nV B ^ nV Y % nV N)).reverse) (N.length : Int) else ([], 101)

end Go.Proofs.YtpefjkndfifceaaDoor

namespace Go.Proofs.YtpefjkndfifceaaDoor
open Go.RowKit
set_option maxRecDepth 100000

theorem two_top {j k : Nat} (hj : topM = 2 ^ j) (hk : k ≤ j) {n : Nat} (h : n < 2 ^ k) : n < topM := by
  rw [hj]
  exact Nat.lt_of_lt_of_le h (Nat.pow_le_pow_right (show 0 < 2 by decide) hk)
theorem topM_2 {j : Nat} (hj : j = 4096) : topM = 2 ^ j := by
  have h : ∀ a b c d e : Nat, a = b ^ c → e = c * d → a ^ d = b ^ e := by
    rintro a b c d e rfl rfl
    exact (Nat.pow_mul b c d).symm
  exact h 4294967296 2 32 128 j (by decide) (by omega)
theorem pub_mod {N E : List Nat} (h : PubP N E) : Mod3 (nV N) := by
  obtain ⟨-, -, h1, h2, -, -, h3, -, -⟩ := h
  refine ⟨two_top (topM_2 rfl) (Nat.le_refl _) ((bitsN_le (nV N) 4096).1 h2), ?_, ?_⟩
  · by_cases h4 : 3 ≤ nV N
    · exact h4
    · have h5 := (bitsN_le (nV N) 2).2 (by omega)
      omega
  · rw [Nat.testBit_zero] at h3
    exact of_decide_eq_true h3
open Classical in
noncomputable def rRaise (N E B : List Nat) : List UInt8 × Int := if PubP N E then raiseV N B E else ([], 100)
open Classical in
noncomputable def rLower (N E D B : List Nat) : List UInt8 × Int := if PrivP N E D then raiseV N B D else ([], 100)

end Go.Proofs.YtpefjkndfifceaaDoor

namespace Go.Proofs.YtpefjkndfifceaaDoor
open Go.RowKit
set_option maxRecDepth 100000

theorem results_cell1 {fn : Func} {p : Tmp} {ty : TypeId} (h : fn.results = #[.cell p ty]) (tmps : Array Value) (P : Program) (w : World) :
    (results fn tmps).run P w = ((asAddr (tmps.getD p undef)).run P w).andThen fun a w₁ => (loadVar ty a).run P w₁ := by
  simp [results, h]
theorem half_cells {X : World} {P : Nat} {c0 c1 : Value} {t : TypeId} (h : X.heap[P]? = some (.cells #[c0, c1] t)) : X.cell? ⟨P, 0, none⟩ = some c0 ∧ X.cell? ⟨P, 1, none⟩ = some c1 := by
  simp [World.cell?, h]
end Go.Proofs.YtpefjkndfifceaaDoor

set_option linter.unusedVariables false
namespace Go.Proofs.YtpefjkndfifceaaDoor
set_option maxRecDepth 100000
namespace LL
/-- Powers of 2 + √3: whole and root part. -/
def XY : Nat → Int × Int
  | 0 => (1, 0)
  | n + 1 => (2 * (XY n).1 + 3 * (XY n).2, (XY n).1 + 2 * (XY n).2)
theorem xy_add (m n : Nat) : (XY (m + n)).1 = (XY m).1 * (XY n).1 + 3 * ((XY m).2 * (XY n).2) ∧ (XY (m + n)).2 = (XY m).1 * (XY n).2 + (XY m).2 * (XY n).1 := by
  induction n with
  | zero => simp [XY]
  | succ n ih =>
    obtain ⟨h1, h2⟩ := ih
    rw [← Nat.add_assoc]
    simp only [XY, h1, h2]
    constructor <;> grind
theorem xy_norm (n : Nat) : (XY n).1 * (XY n).1 - 3 * ((XY n).2 * (XY n).2) = 1 := by
  induction n with
  | zero => simp [XY]
  | succ n ih => simp only [XY]; grind
/-- n is a period by q. -/
def Per (q : Int) (n : Nat) : Prop := q ∣ (XY n).1 - 1 ∧ q ∣ (XY n).2
theorem Per.zero (q : Int) : Per q 0 := by simp [Per, XY]
theorem Per.add {q : Int} {m n : Nat} (h : Per q m) (k : Per q n) : Per q (m + n) := by
  obtain ⟨⟨a, ha⟩, ⟨b, hb⟩⟩ := h
  obtain ⟨⟨c, hc⟩, ⟨d, hd⟩⟩ := k
  obtain ⟨h1, h2⟩ := xy_add m n
  have e1 : (XY m).1 = q * a + 1 := by omega
  have e2 : (XY n).1 = q * c + 1 := by omega
  refine ⟨⟨q * a * c + a + c + 3 * (b * (q * d)), ?_⟩, ⟨(q * a + 1) * d + b * (q * c + 1), ?_⟩⟩
  · rw [h1, e1, e2, hb, hd]; grind
  · rw [h2, e1, e2, hb, hd]; grind
theorem Per.mul {q : Int} {m : Nat} (h : Per q m) (k : Nat) : Per q (m * k) := by
  induction k with
  | zero => exact Per.zero q
  | succ k ih => exact ih.add h
/-- Two places with the same rests: what lies between is a period. -/
theorem Per.of_same {q : Int} {i d : Nat} (h1 : q ∣ (XY (i + d)).1 - (XY i).1) (h2 : q ∣ (XY (i + d)).2 - (XY i).2) : Per q d := by
  obtain ⟨a, ha⟩ := h1
  obtain ⟨b, hb⟩ := h2
  obtain ⟨e1, e2⟩ := xy_add i d
  have n := xy_norm i
  refine ⟨⟨(XY i).1 * a - 3 * ((XY i).2 * b), ?_⟩, ⟨(XY i).1 * b - (XY i).2 * a, ?_⟩⟩ <;> grind
theorem Per.sub {q : Int} {m d : Nat} (h : Per q m) (k : Per q (m + d)) : Per q d := by
  refine Per.of_same (i := m) ?_ ?_
  · obtain ⟨a, ha⟩ := h.1
    obtain ⟨b, hb⟩ := k.1
    exact ⟨b - a, by grind⟩
  · obtain ⟨a, ha⟩ := h.2
    obtain ⟨b, hb⟩ := k.2
    exact ⟨b - a, by grind⟩
theorem Per.gcd {q : Int} (m n : Nat) (h : Per q m) (k : Per q n) : Per q (Nat.gcd m n) := by
  induction m, n using Nat.gcd.induction with
  | H0 n => simpa using k
  | H1 m n hm ih =>
    rw [Nat.gcd_rec]
    refine ih ?_ h
    have e := Nat.div_add_mod n m
    exact (h.mul (n / m)).sub (by rw [e]; exact k)
theorem two_half {d k : Nat} (hd : 0 < d) (hk : d < 2 ^ (k + 1)) : Nat.gcd d (2 ^ (k + 1)) ∣ 2 ^ k := by
  obtain ⟨h, hh⟩ := Nat.gcd_dvd_right d (2 ^ (k + 1))
  have hg : Nat.gcd d (2 ^ (k + 1)) ≤ d := Nat.le_of_dvd hd (Nat.gcd_dvd_left d _)
  generalize Nat.gcd d (2 ^ (k + 1)) = g at *
  rcases Nat.mod_two_eq_zero_or_one h with h2 | h2
  · refine ⟨h / 2, ?_⟩
    have e : h = 2 * (h / 2) := by omega
    rw [Nat.pow_succ] at hh
    have : 2 ^ k * 2 = (g * (h / 2)) * 2 := by rw [hh, Nat.mul_assoc]; congr 1; omega
    exact Nat.eq_of_mul_eq_mul_right (by decide) this
  · have hc : Nat.Coprime h (2 ^ (k + 1)) := by
      refine Nat.Coprime.pow_right _ ?_
      rw [Nat.coprime_comm, Nat.Coprime, Nat.gcd_rec, h2]
      decide
    have h1 : h ∣ 1 := by
      have : h ∣ Nat.gcd h (2 ^ (k + 1)) := Nat.dvd_gcd (Nat.dvd_refl h) ⟨g, by rw [hh, Nat.mul_comm]⟩
      rw [hc] at this
      exact this
    have : h = 1 := Nat.dvd_one.1 h1
    subst this
    rw [Nat.mul_one] at hh
    omega
theorem pigeon (n : Nat) : ∀ f : Nat → Nat, (∀ i, i ≤ n → f i < n) → ∃ i j, i < j ∧ j ≤ n ∧ f i = f j := by
  induction n with
  | zero => intro f h; exact absurd (h 0 (Nat.le_refl _)) (by omega)
  | succ n ih =>
    intro f h
    by_cases hx : ∃ i, i ≤ n ∧ f i = f (n + 1)
    · obtain ⟨i, hi, e⟩ := hx
      exact ⟨i, n + 1, by omega, by omega, e⟩
    · have hne : ∀ i, i ≤ n → f i ≠ f (n + 1) := fun i hi e => hx ⟨i, hi, e⟩
      obtain ⟨i, j, h1, h2, h3⟩ := ih (fun i => if f i = n then f (n + 1) else f i) (fun i hi => by
        have h1 := h i (by omega)
        have h2 := h (n + 1) (by omega)
        have h3 := hne i hi
        skip
        split <;> omega)
      refine ⟨i, j, h1, by omega, ?_⟩
      have a := hne i (by omega)
      have b := hne j h2
      skip
      split at h3 <;> split at h3 <;> omega
/-- No divisor of a number by which 2^k is half a period and whose square is below. -/
theorem no_small {q k : Nat} (hq : 2 < q) (hk : (q : Int) ∣ (XY (2 ^ k)).1 + 1) (hy : (q : Int) ∣ (XY (2 ^ k)).2) : 2 ^ (k + 1) ≤ q * q := by
  refine Nat.le_of_not_lt fun hlt => ?_
  have hpos : (0 : Int) < q := by omega
  have half : ¬ Per q (2 ^ k) := fun h => by
    obtain ⟨a, ha⟩ := h.1
    obtain ⟨b, hb⟩ := hk
    have : (q : Int) ∣ 2 := ⟨b - a, by grind⟩
    have := Int.le_of_dvd (by decide) this
    omega
  have full : Per q (2 ^ (k + 1)) := by
    rw [Nat.pow_succ, Nat.mul_two]
    obtain ⟨h1, h2⟩ := xy_add (2 ^ k) (2 ^ k)
    obtain ⟨a, ha⟩ := hk
    obtain ⟨b, hb⟩ := hy
    have e : (XY (2 ^ k)).1 = q * a - 1 := by omega
    refine ⟨⟨q * a * a - 2 * a + 3 * (b * (q * b)), ?_⟩, ⟨(q * a - 1) * b + b * (q * a - 1), ?_⟩⟩
    · rw [h1, e, hb]; grind
    · rw [h2, e, hb]; grind
  have rest : ∀ x : Int, (x % q).toNat < q ∧ ((x % q).toNat : Int) = x % q := fun x => by
    have := Int.emod_nonneg x (show (q : Int) ≠ 0 by omega)
    have := Int.emod_lt_of_pos x hpos
    omega
  obtain ⟨i, j, hij, hj, e⟩ := pigeon (q * q) (fun i => ((XY i).1 % q).toNat * q + ((XY i).2 % q).toNat) (fun i _ => by
    have h1 := (rest (XY i).1).1
    have h2 := (rest (XY i).2).1
    have := Nat.mul_le_mul_right q (show ((XY i).1 % q).toNat + 1 ≤ q by omega)
    rw [Nat.add_mul, Nat.one_mul] at this
    skip
    omega)
  skip
  obtain ⟨d, rfl⟩ : ∃ d, j = i + d := ⟨j - i, by omega⟩
  have pair : ∀ a b c d q : Nat, b < q → d < q → a * q + b = c * q + d → a = c ∧ b = d := fun a b c d q h1 h2 h => by
    have e1 := congrArg (· / q) h
    have e2 := congrArg (· % q) h
    have hq : 0 < q := by omega
    rw [Nat.mul_comm a, Nat.mul_comm c, Nat.mul_add_div hq, Nat.mul_add_div hq, Nat.div_eq_of_lt h1, Nat.div_eq_of_lt h2] at e1
    rw [Nat.mul_comm a, Nat.mul_comm c, Nat.mul_add_mod, Nat.mul_add_mod, Nat.mod_eq_of_lt h1, Nat.mod_eq_of_lt h2] at e2
    exact ⟨by simpa using e1, e2⟩
  obtain ⟨e1, e2⟩ := pair _ _ _ _ _ (rest _).1 (rest _).1 e
  have same : ∀ x y : Int, (x % q).toNat = (y % q).toNat → (q : Int) ∣ y - x := fun x y h => by
    have h1 := (rest x).2
    have h2 := (rest y).2
    exact Int.dvd_of_emod_eq_zero (Int.emod_eq_emod_iff_emod_sub_eq_zero.1 (by omega))
  have hd : Per q d := Per.of_same (same _ _ e1) (same _ _ e2)
  have hg := hd.gcd _ _ full
  obtain ⟨c, hc⟩ := two_half (show 0 < d by omega) (show d < 2 ^ (k + 1) by omega)
  rw [hc] at half
  exact half (hg.mul c)
/-- The sequence of Lucas and Lehmer. -/
def ll (M : Nat) : Nat → Nat
  | 0 => 4
  | n + 1 => (ll M n * ll M n + (M - 2)) % M
theorem ll_is {M : Nat} (hM : 2 ≤ M) (n : Nat) : (M : Int) ∣ (ll M n : Int) - 2 * (XY (2 ^ n)).1 := by
  induction n with
  | zero => exact ⟨0, by simp [ll, XY]⟩
  | succ n ih =>
    obtain ⟨a, ha⟩ := ih
    have h1 := (xy_add (2 ^ n) (2 ^ n)).1
    have h2 := xy_norm (2 ^ n)
    rw [Nat.pow_succ, Nat.mul_two]
    have e : ((ll M (n + 1) : Nat) : Int) = (ll M n : Int) * ll M n + (M - 2) - M * (((ll M n * ll M n + (M - 2) : Nat) / M : Nat) : Int) := by
      have := Nat.div_add_mod (ll M n * ll M n + (M - 2)) M
      have hd : ll M (n + 1) = (ll M n * ll M n + (M - 2)) % M := rfl
      rw [hd]
      have h3 : ((M * ((ll M n * ll M n + (M - 2)) / M) + (ll M n * ll M n + (M - 2)) % M : Nat) : Int) = ((ll M n * ll M n + (M - 2) : Nat) : Int) := by rw [this]
      rw [Int.natCast_add, Int.natCast_mul, Int.natCast_add, Int.natCast_mul, show ((M - 2 : Nat) : Int) = (M : Int) - 2 by omega] at h3
      omega
    generalize ((ll M n * ll M n + (M - 2)) / M : Nat) = t at e
    rw [e]
    refine ⟨a * (ll M n + 2 * (XY (2 ^ n)).1) + 1 - t, ?_⟩
    grind
/-- A prime. -/
def Pr (p : Nat) : Prop := 1 < p ∧ ∀ d, d ∣ p → d = 1 ∨ d = p
theorem prime_ll {M k : Nat} (hM : M + 1 = 2 ^ (k + 2)) (h : ll M k = 0) : Pr M := by
  have h4 : 4 ≤ 2 ^ (k + 2) := Nat.pow_le_pow_right (show 0 < 2 by decide) (show 2 ≤ k + 2 by omega)
  have hodd : M % 2 = 1 := by
    rw [Nat.pow_succ] at hM
    omega
  obtain ⟨a, ha⟩ := ll_is (M := M) (by omega) k
  rw [h] at ha
  have hx : ∀ q : Nat, q ∣ M → (q : Int) ∣ (XY (2 ^ k)).1 := fun q hq => by
    have h2 : q ∣ 2 * (XY (2 ^ k)).1.natAbs := by
      obtain ⟨b, hb⟩ := hq
      have : (q : Int) ∣ 2 * (XY (2 ^ k)).1 := ⟨-(b * a), by rw [hb] at ha; grind⟩
      have := Int.natAbs_dvd_natAbs.2 this
      rwa [Int.natAbs_mul, Int.natAbs_natCast] at this
    have hc : Nat.Coprime q 2 := by
      have h3 : Nat.gcd q 2 ∣ 2 := Nat.gcd_dvd_right _ _
      have h4 : Nat.gcd q 2 ∣ M := Nat.dvd_trans (Nat.gcd_dvd_left _ _) hq
      have h5 := Nat.le_of_dvd (by decide) h3
      have h6 : Nat.gcd q 2 ≠ 0 := fun e => by rw [e] at h3; simp at h3
      have h7 : Nat.gcd q 2 ≠ 2 := fun e => by rw [e] at h4; omega
      show Nat.gcd q 2 = 1
      omega
    have := hc.dvd_of_dvd_mul_left h2
    exact Int.natAbs_dvd_natAbs.1 (by simpa using this)
  have big : ∀ q : Nat, q ∣ M → 1 < q → 2 ^ (k + 2) ≤ q * q := fun q hq h1 => by
    have hq2 : q ≠ 2 := fun e => by rw [e] at hq; omega
    obtain ⟨c, hc⟩ := hx q hq
    obtain ⟨e1, e2⟩ := xy_add (2 ^ k) (2 ^ k)
    have n := xy_norm (2 ^ k)
    refine no_small (k := k + 1) (by omega) ?_ ?_
    · rw [Nat.pow_succ, Nat.mul_two, e1]
      exact ⟨2 * c * (XY (2 ^ k)).1, by grind⟩
    · rw [Nat.pow_succ, Nat.mul_two, e2]
      exact ⟨2 * (c * (XY (2 ^ k)).2), by grind⟩
  refine ⟨by omega, fun d hd => ?_⟩
  obtain ⟨e, he⟩ := hd
  have hd0 : d ≠ 0 := fun h => by rw [h] at he; omega
  have he0 : e ≠ 0 := fun h => by rw [h] at he; omega
  by_cases hd1 : d = 1
  · exact .inl hd1
  by_cases he1 : e = 1
  · right; rw [he, he1, Nat.mul_one]
  exfalso
  have b1 := big d ⟨e, he⟩ (by omega)
  have b2 := big e ⟨d, by rw [he, Nat.mul_comm]⟩ (by omega)
  rcases Nat.le_total d e with h | h
  · have := Nat.mul_le_mul_left d h
    omega
  · have := Nat.mul_le_mul_right e h
    omega
/-- The sequence, by steps. -/
def llGo (M : Nat) : Nat → Nat → Nat
  | 0, s => s
  | n + 1, s => llGo M n ((s * s + (M - 2)) % M)
theorem llGo_eq (M : Nat) : ∀ n m, llGo M n (ll M m) = ll M (m + n) := by
  intro n
  induction n with
  | zero => intro m; rfl
  | succ n ih => intro m; rw [show m + (n + 1) = (m + 1) + n by omega, ← ih]; rfl
theorem p61 : llGo (2 ^ 61 - 1) 59 4 = 0 := by decide +kernel
theorem p521 : llGo (2^521-1) 519 4 = 0 := by decide +kernel
theorem p607 : llGo (2^607-1) 605 4 = 0 := by decide +kernel
/-- How many ways to choose. -/
def Ch : Nat → Nat → Nat
  | _, 0 => 1
  | 0, _ + 1 => 0
  | n + 1, k + 1 => Ch n k + Ch n (k + 1)
theorem ch_mul (n k : Nat) : (k + 1) * Ch (n + 1) (k + 1) = (n + 1) * Ch n k := by
  induction n generalizing k with
  | zero => cases k <;> simp [Ch]
  | succ n ih =>
    cases k with
    | zero =>
      have := ih 0
      simp only [Ch] at this ⊢
      grind
    | succ k =>
      have h1 := ih k
      have h2 := ih (k + 1)
      have e1 : Ch (n + 1 + 1) (k + 1 + 1) = Ch (n + 1) (k + 1) + Ch (n + 1) (k + 1 + 1) := rfl
      have e2 : Ch (n + 1) (k + 1) = Ch n k + Ch n (k + 1) := rfl
      rw [e1]
      grind
theorem ch_big (n : Nat) : ∀ k, n < k → Ch n k = 0 := by
  induction n with
  | zero => intro k h; cases k with | zero => omega | succ k => rfl
  | succ n ih => intro k h; cases k with | zero => omega | succ k => simp only [Ch]; rw [ih k (by omega), ih (k + 1) (by omega)]
theorem ch_self (n : Nat) : Ch n n = 1 := by
  induction n with
  | zero => rfl
  | succ n ih => simp only [Ch]; rw [ih, ch_big n (n + 1) (by omega)]
/-- A sum of the first ones. -/
def sumTo (f : Nat → Nat) : Nat → Nat
  | 0 => 0
  | n + 1 => sumTo f n + f n
theorem sumTo_add (f g : Nat → Nat) (n : Nat) : sumTo (fun i => f i + g i) n = sumTo f n + sumTo g n := by
  induction n with
  | zero => rfl
  | succ n ih => simp only [sumTo]; rw [ih]; omega
theorem sumTo_mul (f : Nat → Nat) (c n : Nat) : sumTo (fun i => c * f i) n = c * sumTo f n := by
  induction n with
  | zero => rfl
  | succ n ih => simp only [sumTo]; rw [ih]; grind
theorem sumTo_first (f : Nat → Nat) (n : Nat) : sumTo f (n + 1) = f 0 + sumTo (fun i => f (i + 1)) n := by
  induction n with
  | zero => simp [sumTo]
  | succ n ih => rw [sumTo, ih]; simp only [sumTo]; omega
theorem sumTo_congr (f g : Nat → Nat) (n : Nat) (h : ∀ i, i < n → f i = g i) : sumTo f n = sumTo g n := by
  induction n with
  | zero => rfl
  | succ n ih => simp only [sumTo]; rw [ih (fun i hi => h i (by omega)), h n (by omega)]
theorem sumTo_dvd (f : Nat → Nat) (p n : Nat) (h : ∀ i, i < n → p ∣ f i) : p ∣ sumTo f n := by
  induction n with
  | zero => exact ⟨0, rfl⟩
  | succ n ih => exact Nat.dvd_add (ih fun i hi => h i (by omega)) (h n (by omega))
theorem binom (x n : Nat) : (x + 1) ^ n = sumTo (fun k => Ch n k * x ^ k) (n + 1) := by
  induction n with
  | zero => simp [sumTo, Ch]
  | succ n ih =>
    rw [Nat.pow_succ, ih, sumTo_first _ (n + 1)]
    have e : sumTo (fun i => Ch (n + 1) (i + 1) * x ^ (i + 1)) (n + 1) = x * sumTo (fun k => Ch n k * x ^ k) (n + 1) + sumTo (fun i => Ch n (i + 1) * x ^ (i + 1)) (n + 1) := by
      rw [← sumTo_mul, ← sumTo_add]
      refine sumTo_congr _ _ _ fun i _ => ?_
      simp only [Ch, Nat.pow_succ]
      grind
    rw [e]
    have e2 : sumTo (fun k => Ch n k * x ^ k) (n + 1) + Ch n (n + 1) * x ^ (n + 1) = Ch n 0 * x ^ 0 + sumTo (fun i => Ch n (i + 1) * x ^ (i + 1)) (n + 1) := by
      rw [← sumTo_first (fun k => Ch n k * x ^ k)]
      rfl
    rw [ch_big n (n + 1) (by omega)] at e2
    have e3 : Ch (n + 1) 0 * x ^ 0 = Ch n 0 * x ^ 0 := by cases n <;> rfl
    rw [e3]
    generalize sumTo (fun k => Ch n k * x ^ k) (n + 1) = S at *
    generalize sumTo (fun i => Ch n (i + 1) * x ^ (i + 1)) (n + 1) = T at *
    generalize Ch n 0 * x ^ 0 = U at *
    grind
theorem Pr.coprime {p a : Nat} (hp : Pr p) (h : ¬ p ∣ a) : Nat.Coprime p a := by
  rcases hp.2 (Nat.gcd p a) (Nat.gcd_dvd_left _ _) with e | e
  · exact e
  · exact absurd (by rw [← e]; exact Nat.gcd_dvd_right _ _) h
theorem Pr.ch {p k : Nat} (hp : Pr p) (h0 : 0 < k) (hk : k < p) : p ∣ Ch p k := by
  obtain ⟨k, rfl⟩ : ∃ j, k = j + 1 := ⟨k - 1, by omega⟩
  have h1 := hp.1
  obtain ⟨n, rfl⟩ : ∃ n, p = n + 1 := ⟨p - 1, by omega⟩
  have hc : Nat.Coprime (n + 1) (k + 1) := hp.coprime fun h => by have := Nat.le_of_dvd (by omega) h; omega
  exact hc.dvd_of_dvd_mul_left (m := k + 1) ⟨Ch n k, ch_mul n k⟩
theorem fermat {p : Nat} (hp : Pr p) (x : Nat) : x ^ p % p = x % p := by
  have h1 := hp.1
  induction x with
  | zero => rw [Nat.zero_pow (by omega)]
  | succ x ih =>
    rw [binom, sumTo]
    obtain ⟨n, rfl⟩ : ∃ n, p = n + 1 := ⟨p - 1, by omega⟩
    rw [sumTo_first, ch_self, Nat.one_mul]
    obtain ⟨c, hc⟩ := sumTo_dvd (fun i => Ch (n + 1) (i + 1) * x ^ (i + 1)) (n + 1) n fun i hi => Nat.dvd_trans (hp.ch (by omega) (by omega)) (Nat.dvd_mul_right _ _)
    rw [hc]
    have e : Ch (n + 1) 0 * x ^ 0 = 1 := by simp [Ch]
    rw [e, show 1 + (n + 1) * c + x ^ (n + 1) = (x ^ (n + 1) + 1) + (n + 1) * c by omega, Nat.add_mul_mod_self_left, Nat.add_mod, ih, ← Nat.add_mod]
theorem fermat_more {p : Nat} (hp : Pr p) (x k : Nat) : x ^ (1 + k * (p - 1)) % p = x % p := by
  have h1 := hp.1
  induction k with
  | zero => simp
  | succ k ih =>
    rw [show 1 + (k + 1) * (p - 1) = k * (p - 1) + p by rw [Nat.add_mul]; omega, Nat.pow_add, Nat.mul_mod, fermat hp, ← Nat.mul_mod, ← Nat.pow_succ, Nat.succ_eq_add_one, Nat.add_comm _ 1, ih]
theorem rsa_round {p q e d : Nat} (hp : Pr p) (hq : Pr q) (hne : p ≠ q) (h : e * d % ((p - 1) * (q - 1)) = 1) (x : Nat) (hx : x < p * q) : (x ^ e % (p * q)) ^ d % (p * q) = x := by
  obtain ⟨k, hk⟩ : ∃ k, e * d = 1 + k * ((p - 1) * (q - 1)) := ⟨e * d / ((p - 1) * (q - 1)), by
    have := Nat.div_add_mod (e * d) ((p - 1) * (q - 1))
    rw [h, Nat.mul_comm] at this
    omega⟩
  rw [← Nat.pow_mod, ← Nat.pow_mul, hk]
  generalize hy : x ^ (1 + k * ((p - 1) * (q - 1))) = y
  have hc : Nat.Coprime p q := hp.coprime fun hd => by
    rcases hq.2 p hd with e | e
    · have := hp.1; omega
    · exact hne e
  have m1 : y % p = x % p := by
    rw [← hy, show k * ((p - 1) * (q - 1)) = (k * (q - 1)) * (p - 1) by rw [Nat.mul_comm (p - 1), Nat.mul_assoc]]
    exact fermat_more hp x _
  have m2 : y % q = x % q := by
    rw [← hy, ← Nat.mul_assoc]
    exact fermat_more hq x _
  have two : ∀ n : Nat, y % n = x % n → (n : Int) ∣ (y : Int) - x := fun n h => Int.dvd_of_emod_eq_zero (Int.emod_eq_emod_iff_emod_sub_eq_zero.1 (by exact_mod_cast h))
  have d1 := two p m1
  have d2 := two q m2
  have d3 : p * q ∣ ((y : Int) - x).natAbs := hc.mul_dvd_of_dvd_of_dvd (by simpa using Int.natAbs_dvd_natAbs.2 d1) (by simpa using Int.natAbs_dvd_natAbs.2 d2)
  have d4 : ((p * q : Nat) : Int) ∣ (y : Int) - x := Int.natAbs_dvd_natAbs.1 (by rw [Int.natAbs_natCast]; exact d3)
  have := Int.emod_emod_of_dvd
  have d5 := Int.emod_eq_emod_iff_emod_sub_eq_zero.2 (Int.emod_eq_zero_of_dvd d4)
  have d6 : y % (p * q) = x % (p * q) := by exact_mod_cast d5
  rw [d6, Nat.mod_eq_of_lt hx]
theorem pr_of (n k : Nat) (hk : n = k + 2) (h : llGo (2 ^ n - 1) k 4 = 0) : Pr (2 ^ n - 1) := by
  subst hk
  have h1 : 0 < 2 ^ (k + 2) := Nat.pow_pos (by decide)
  refine prime_ll (k := k) (by omega) ?_
  have := llGo_eq (2 ^ (k + 2) - 1) k 0
  rw [show ll (2 ^ (k + 2) - 1) 0 = 4 from rfl, h, Nat.zero_add] at this
  exact this.symm
theorem pr61 : Pr (2 ^ 61 - 1) := pr_of 61 59 rfl p61
theorem pr521 : Pr (2 ^ 521 - 1) := pr_of 521 519 rfl p521
theorem pr607 : Pr (2 ^ 607 - 1) := pr_of 607 605 rfl p607
end LL
end Go.Proofs.YtpefjkndfifceaaDoor

namespace Go.Proofs.YtpefjkndfifceaaDoor
open Go.RowKit
set_option maxRecDepth 100000

theorem bare_u8s : ∀ (l : List Nat) (_ : Byt l), Oc.bareL (u8s l) = u8s (natB 256 (nV l)).reverse
  | [], _ => by rw [show nV [] = 0 from rfl, natB_zero]; rfl
  | x :: r, hb => by
    have hx : x < 256 := hb x List.mem_cons_self
    have hr : Byt r := fun y hy => hb y (List.mem_cons_of_mem _ hy)
    have ih := bare_u8s r hr
    unfold Oc.bareL u8s at ih ⊢
    rw [List.map_cons, List.dropWhile_cons]
    by_cases h0 : x = 0
    · subst h0
      rw [if_pos (by decide), ih]
      have : nV (0 :: r) = nV r := by
        show valB 256 (0 :: r).reverse = valB 256 r.reverse
        rw [List.reverse_cons, valB_snoc, Nat.mul_zero, Nat.add_zero]
      rw [this]
    · rw [if_neg]
      · have hl : (∀ y ∈ (x :: r).reverse, y < 256) := fun y hy => hb y (List.mem_reverse.1 hy)
        have := bareN_eq (by decide) hl
        rw [List.reverse_cons, bareN_snoc _ _ h0] at this
        show List.map UInt8.ofNat (x :: r) = _
        rw [show nV (x :: r) = valB 256 (r.reverse ++ [x]) by show valB 256 (x :: r).reverse = _; rw [List.reverse_cons], ← this, List.reverse_append, List.reverse_reverse]
        rfl
      · intro h1
        rw [beq_iff_eq] at h1
        have h2 := congrArg UInt8.toNat h1
        rw [UInt8.toNat_ofNat', Nat.mod_eq_of_lt (show x < 2 ^ 8 from hx)] at h2
        exact h0 h2

/-- A number as so many bytes. -/
def beN (n z : Nat) : List Nat := List.replicate (n - (natB 256 z).length) 0 ++ (natB 256 z).reverse
theorem beN_len {n z : Nat} (h : z < 256 ^ n) : (beN n z).length = n := by
  have := (natB_length (show 2 ≤ 256 by decide) z n).2 h
  unfold beN
  rw [List.length_append, List.length_replicate, List.length_reverse]
  omega
theorem beN_byt (n z : Nat) : Byt (beN n z) := fun x hx => by
  rcases List.mem_append.1 hx with h | h
  · rw [List.eq_of_mem_replicate h]; decide
  · exact natB_digit (by decide) z x (List.mem_reverse.1 h)
theorem beN_val (n z : Nat) : nV (beN n z) = z := by
  show valB 256 (beN n z).reverse = z
  unfold beN
  rw [List.reverse_append, List.reverse_reverse, List.reverse_replicate, valB_append, valB_zeros, Nat.mul_zero, Nat.add_zero, natB_val (by decide)]
theorem nV_lt {l : List Nat} (h : Byt l) : nV l < 256 ^ l.length := by
  have := valB_lt (b := 256) (by decide) (l := l.reverse) (fun x hx => h x (List.mem_reverse.1 hx))
  rwa [List.length_reverse] at this
theorem nV_inj {l m : List Nat} (hl : Byt l) (hm : Byt m) (hn : l.length = m.length) (h : nV l = nV m) : l = m := by
  have hr : l.reverse = m.reverse := by
    refine List.ext_getElem (by simpa using hn) fun i h1 h2 => ?_
    have a := valB_get (b := 256) (by decide) (l := l.reverse) (fun x hx => hl x (List.mem_reverse.1 hx)) i
    have b := valB_get (b := 256) (by decide) (l := m.reverse) (fun x hx => hm x (List.mem_reverse.1 hx)) i
    rw [List.getElem?_eq_getElem h1] at a
    rw [List.getElem?_eq_getElem h2] at b
    have h' : valB 256 l.reverse = valB 256 m.reverse := h
    rw [h'] at a
    simp only [Option.getD_some] at a b
    rw [a, b]
  exact List.reverse_inj.1 hr
theorem beN_of {l : List Nat} (h : Byt l) : beN l.length (nV l) = l :=
  nV_inj (beN_byt _ _) h (beN_len (nV_lt h)) (beN_val _ _)
theorem pad_be {n z : Nat} (h : z < 256 ^ n) (hn : n ≤ 65536) : Oc.padR (u8s (natB 256 z).reverse) (n : Int) = (u8s (beN n z), 0) := by
  have hl := (natB_length (show 2 ≤ 256 by decide) z n).2 h
  have hb : Byt (natB 256 z).reverse := fun x hx => natB_digit (by decide) z x (List.mem_reverse.1 hx)
  have e : Oc.bareL (u8s (natB 256 z).reverse) = u8s (natB 256 z).reverse := by
    rw [bare_u8s _ hb]
    show u8s (natB 256 (valB 256 (natB 256 z).reverse.reverse)).reverse = _
    rw [List.reverse_reverse, natB_val (by decide)]
  rw [Oc.padR_yes hn (by rw [e]; simpa [u8s] using hl), e]
  unfold beN u8s
  rw [List.map_append, List.map_replicate, List.length_map, List.length_reverse]
  rfl
theorem raise_yes {N B Y : List Nat} (bN : Byt N) (ln : N.length ≤ 700) (h : nV B < nV N) : raiseV N B Y = (u8s (beN N.length (nV B ^ nV Y % nV N)), 0) := by
  unfold raiseV
  rw [if_pos h]
  refine pad_be (Nat.lt_trans (Nat.mod_lt _ (by omega)) (nV_lt bN)) (by omega)
theorem raise_no {N B Y : List Nat} (h : ¬ nV B < nV N) : raiseV N B Y = ([], 101) := by
  unfold raiseV
  rw [if_neg h]

/-- A key that is proved. -/
def GoodK (N E D : List Nat) : Prop := PrivP N E D ∧ ∃ p q, LL.Pr p ∧ LL.Pr q ∧ p ≠ q ∧ nV N = p * q ∧ nV E * nV D % ((p - 1) * (q - 1)) = 1
theorem GoodK.up {N E D : List Nat} (h : GoodK N E D) {x : Nat} (hx : x < nV N) : (x ^ nV E % nV N) ^ nV D % nV N = x := by
  obtain ⟨-, p, q, hp, hq, hne, hn, hr⟩ := h
  rw [hn] at hx ⊢
  exact LL.rsa_round hp hq hne hr x hx
theorem GoodK.down {N E D : List Nat} (h : GoodK N E D) {x : Nat} (hx : x < nV N) : (x ^ nV D % nV N) ^ nV E % nV N = x := by
  obtain ⟨-, p, q, hp, hq, hne, hn, hr⟩ := h
  rw [hn] at hx ⊢
  exact LL.rsa_round hp hq hne (by rw [Nat.mul_comm]; exact hr) x hx
end Go.Proofs.YtpefjkndfifceaaDoor

namespace Go.Proofs.YtpefjkndfifceaaDoor
open Go.RowKit
set_option maxRecDepth 100000

/-- A key: its three slices, and what they read. -/
def KeyAt (w : World) (k : Value) (N E D : List Nat) : Prop := ∃ (na : Option Addr) (nn nc : Nat) (ea : Option Addr) (en ec : Nat) (da : Option Addr) (dn dc : Nat), k = .agg #[.slice na nn nc, .slice ea en ec, .slice da dn dc] ∧ (Reads .u8 w na nn nc N ∧ Byt N ∧ nn ≤ 700) ∧ (Reads .u8 w ea en ec E ∧ Byt E ∧ en ≤ 700) ∧ Reads .u8 w da dn dc D ∧ Byt D ∧ dn ≤ 700
theorem KeyAt.below {w w' : World} {k : Value} {N E D : List Nat} (h : KeyAt w k N E D) (hb : Below w.heap.size w w') : KeyAt w' k N E D := by
  obtain ⟨na, nn, nc, ea, en, ec, da, dn, dc, rfl, ⟨h1, h2, h3⟩, ⟨h4, h5, h6⟩, h7, h8, h9⟩ := h
  exact ⟨na, nn, nc, ea, en, ec, da, dn, dc, rfl, ⟨h1.below hb, h2, h3⟩, ⟨h4.below hb, h5, h6⟩, h7.below hb, h8, h9⟩
theorem KeyAt.small {w : World} {k : Value} {N E D : List Nat} (h : KeyAt w k N E D) : (Byt N ∧ N.length ≤ 700) ∧ (Byt E ∧ E.length ≤ 700) ∧ Byt D ∧ D.length ≤ 700 := by
  obtain ⟨na, nn, nc, ea, en, ec, da, dn, dc, rfl, ⟨h1, h2, h3⟩, ⟨h4, h5, h6⟩, h7, h8, h9⟩ := h
  exact ⟨⟨h2, by rw [h1.length]; exact h3⟩, ⟨h5, by rw [h4.length]; exact h6⟩, h8, by rw [h7.length]; exact h9⟩
theorem kpublic (k : Value) (N E D : List Nat) (w : World) (hkey : KeyAt w k N E D) :
    Calls Tryd.prog 4 #[k] w fun e w' => e = .returned (.int .i64 (pubE N E)) ∧ Below w.heap.size w w' := by
  obtain ⟨na, nn, nc, ea, en, ec, da, dn, dc, rfl, ⟨hN, bN, ln⟩, ⟨hE, bE, le⟩, hD, bD, ld⟩ := hkey
  exact public_any na nn nc N ea en ec E da dn dc w hN bN hE bE ln le
theorem kprivate (k : Value) (N E D : List Nat) (w : World) (hkey : KeyAt w k N E D) :
    Calls Tryd.prog 5 #[k] w fun e w' => e = .returned (.int .i64 (privE N E D)) ∧ Below w.heap.size w w' := by
  obtain ⟨na, nn, nc, ea, en, ec, da, dn, dc, rfl, ⟨hN, bN, ln⟩, ⟨hE, bE, le⟩, hD, bD, ld⟩ := hkey
  exact private_any na nn nc N ea en ec E da dn dc D w hN bN hE bE hD bD ln le ld
theorem kbits (k : Value) (N E D : List Nat) (w : World) (hkey : KeyAt w k N E D) :
    Calls Tryd.prog 35 #[k] w fun e w' => e = .returned (.int .i64 (bitsN (numV N) : Nat)) ∧ Below w.heap.size w w' := by
  obtain ⟨na, nn, nc, ea, en, ec, da, dn, dc, rfl, ⟨hN, bN, ln⟩, ⟨hE, bE, le⟩, hD, bD, ld⟩ := hkey
  exact kbits_any na nn nc N ea en ec da dn dc w hN bN ln
theorem krpublic (k : Value) (N E D : List Nat) (w : World) (hkey : KeyAt w k N E D) :
    Calls Tryd.prog 6 #[k] w fun e w' => e = .returned (.int .i64 (pubE N E)) ∧ Below w.heap.size w w' := by
  obtain ⟨na, nn, nc, ea, en, ec, da, dn, dc, rfl, ⟨hN, bN, ln⟩, ⟨hE, bE, le⟩, hD, bD, ld⟩ := hkey
  exact rpublic_any na nn nc N ea en ec E da dn dc w hN bN hE bE ln le
theorem krprivate (k : Value) (N E D : List Nat) (w : World) (hkey : KeyAt w k N E D) :
    Calls Tryd.prog 7 #[k] w fun e w' => e = .returned (.int .i64 (privE N E D)) ∧ Below w.heap.size w w' := by
  obtain ⟨na, nn, nc, ea, en, ec, da, dn, dc, rfl, ⟨hN, bN, ln⟩, ⟨hE, bE, le⟩, hD, bD, ld⟩ := hkey
  exact rprivate_any na nn nc N ea en ec E da dn dc D w hN bN hE bE hD bD ln le ld
end Go.Proofs.YtpefjkndfifceaaDoor

namespace Go.Proofs.YtpefjkndfifceaaDoor
open Go.RowKit
set_option maxRecDepth 100000

instance isHashDecR (h : Nat) : Decidable (IsHash h) := by unfold IsHash; infer_instance
def rSize (h : Int) : Int := if IsHash h.toNat then (mSize h.toNat : Int) else 0
theorem rSize_yes {h : Nat} (hh : IsHash h) : rSize (h : Int) = (mSize h : Int) := by simp [rSize, hh]
theorem rSize_no {h : Int} (hh : ¬ IsHash h.toNat) : rSize h = 0 := by unfold rSize; rw [if_neg hh]
theorem isHash_int (h : Int) : (h = 1 ∨ h = 2 ∨ h = 3 ∨ h = 4) ∨ ¬ IsHash h.toNat ∧ h ≠ 1 ∧ h ≠ 2 ∧ h ≠ 3 ∧ h ≠ 4 := by
  unfold IsHash
  omega
theorem rsize_any (h : Int) (w : World) : Calls Tryd.prog 20 #[.int .i64 h] w fun e w' => e = .returned (.int .i64 (rSize h)) ∧ w = w' := by
  rcases isHash_int h with (rfl | rfl | rfl | rfl) | ⟨hn, h1, h2, h3, h4⟩
  · rw [show rSize 1 = 28 by decide]
    go_enter Tryd.func20, Tryd.ntmps20
    go_wp2
    go_ret
    exact ⟨rfl, rfl⟩
  · rw [show rSize 2 = 32 by decide]
    go_enter Tryd.func20, Tryd.ntmps20
    go_wp2
    go_ret
    exact ⟨rfl, rfl⟩
  · rw [show rSize 3 = 48 by decide]
    go_enter Tryd.func20, Tryd.ntmps20
    go_wp2
    go_ret
    exact ⟨rfl, rfl⟩
  · rw [show rSize 4 = 64 by decide]
    go_enter Tryd.func20, Tryd.ntmps20
    go_wp2
    go_ret
    exact ⟨rfl, rfl⟩
  · rw [rSize_no hn]
    have t1 : (h == 1) = false := by simpa using h1
    have t2 : (h == 2) = false := by simpa using h2
    have t3 : (h == 3) = false := by simpa using h3
    have t4 : (h == 4) = false := by simpa using h4
    clear hn h1 h2 h3 h4
    go_enter Tryd.func20, Tryd.ntmps20
    go_wp2
    go_ret
    exact ⟨rfl, rfl⟩
end Go.Proofs.YtpefjkndfifceaaDoor

namespace Go.Proofs.YtpefjkndfifceaaDoor
open Go.RowKit
set_option maxRecDepth 100000

/-- A hash's size, or 0. -/
def hSz (h : Int) : Nat := if IsHash h.toNat then mSize h.toNat else 0
theorem hSz_le (h : Int) : hSz h ≤ 64 := by
  unfold hSz
  split
  · next hh => exact (mSize_le hh).2
  · exact Nat.zero_le _
theorem hSz_yes {h : Int} (hh : IsHash h.toNat) : hSz h = mSize h.toNat := if_pos hh
theorem hSz_no {h : Int} (hh : ¬ IsHash h.toNat) : hSz h = 0 := if_neg hh
theorem rSize_hSz (h : Int) : rSize h = (hSz h : Int) := by
  unfold rSize hSz
  split <;> rfl
theorem isHash_nat {h : Int} (hh : IsHash h.toNat) : h = (h.toNat : Int) := by
  rcases hh with e | e | e | e <;> omega
theorem msize_any (h : Int) (w : World) (hk : Kinds w) : Calls Tryd.prog 18 #[.int .i64 h] w fun e w' => e = .returned (.int .i64 (hSz h : Nat)) ∧ Below w.heap.size w w' := by
  by_cases hh : IsHash h.toNat
  · have e := isHash_nat hh
    rw [hSz_yes hh]
    generalize h.toNat = g at *
    subst e
    exact size_yes g hh w hk
  · rw [hSz_no hh]
    exact size_no h (by unfold IsHash at hh; omega) w
/-- Pss' encoding, or the error. -/
def pssV (h : Int) (d s : List Nat) (b : Int) : List Nat × Int := if RoomP h (s.length : Int) b ∧ d.length = mSize h.toNat then (emsP h.toNat d s b.toNat, 0) else ([], 90)
/-- What is signed, or the error (the code's). -/
def sgnV (N : List Nat) (way h : Int) (d s : List Nat) : List Nat × Int := if way = 1 then encR h d (N.length : Int) else if way = 2 then (if s.length = hSz h then pssV h d s ((bitsN (numV N) : Int) - 1) else ([], 101)) else ([], 101)
/-- Is there room? -/
def RoomK (N E : List Nat) (way h : Int) : Prop := PubP N E ∧ (sgnV N way h (List.replicate (hSz h) 0) (List.replicate (hSz h) 0)).2 = 0
theorem encR_ok {h : Int} {d : List Nat} {n : Int} : (encR h d n).2 = 0 ↔ IsHash h.toNat ∧ d.length = mSize h.toNat ∧ (d.length : Int) + 30 ≤ n ∧ n ≤ 65536 := by
  unfold encR
  by_cases h1 : FrameOk h d.length
  · rw [if_pos h1]
    by_cases h2 : n < (d.length : Int) + 30 ∨ 65536 < n
    · rw [if_pos h2]
      exact ⟨fun e => (by cases e), fun e => (by omega)⟩
    · rw [if_neg h2]
      exact ⟨fun _ => ⟨h1.1, h1.2, by omega, by omega⟩, fun _ => rfl⟩
  · rw [if_neg h1]
    exact ⟨fun e => (by cases e), fun e => absurd ⟨e.1, e.2.1⟩ h1⟩
theorem encR_yes {h : Int} {d : List Nat} {n : Int} (h1 : (encR h d n).2 = 0) : (encR h d n).1 = encL h.toNat d n.toNat := by
  obtain ⟨a, b, c, e⟩ := encR_ok.1 h1
  unfold encR
  rw [if_pos (show FrameOk h d.length from ⟨a, b⟩), if_neg (by omega)]
theorem encR_no {h : Int} {d : List Nat} {n : Int} (h1 : (encR h d n).2 ≠ 0) : (encR h d n).1 = [] := by
  unfold encR at h1 ⊢
  split
  · next hf =>
    rw [if_pos hf] at h1
    split
    · rfl
    · next hg => rw [if_neg hg] at h1; exact absurd rfl h1
  · rfl
theorem pssV_ok {h : Int} {d s : List Nat} {b : Int} : (pssV h d s b).2 = 0 ↔ RoomP h (s.length : Int) b ∧ d.length = mSize h.toNat := by
  unfold pssV
  by_cases h1 : RoomP h (s.length : Int) b ∧ d.length = mSize h.toNat
  · rw [if_pos h1]; exact ⟨fun _ => h1, fun _ => rfl⟩
  · rw [if_neg h1]; exact ⟨fun e => (by cases e), fun e => absurd e h1⟩
theorem pub_bits {N E : List Nat} (hp : PubP N E) : numV N = nV N ∧ 256 ≤ bitsN (nV N) ∧ bitsN (nV N) ≤ 4096 := ⟨by unfold numV; rw [if_pos hp.1], hp.2.2.1, hp.2.2.2.1⟩
/-- A key's bytes are as many as its bits ask. -/
theorem pub_len {N E : List Nat} (hp : PubP N E) (bN : Byt N) : N.length = lenP (bitsN (nV N)) := by
  have h1 := hp.1
  have hb := hp.2.2.1
  have hN : bareN N.reverse = N.reverse := by
    cases N with
    | nil => rfl
    | cons x r =>
      have hx : x ≠ 0 := by
        unfold numOk at h1
        simp at h1
        omega
      rw [List.reverse_cons, bareN_snoc _ _ hx]
  have e := bareN_eq (b := 256) (by decide) (l := N.reverse) (fun x hx => bN x (List.mem_reverse.1 hx))
  rw [hN] at e
  have hl : N.length = (natB 256 (nV N)).length := by
    have := congrArg List.length e
    rwa [List.length_reverse] at this
  have p1 : ∀ k, nV N < 256 ^ k ↔ bitsN (nV N) ≤ 8 * k := fun k => by
    rw [bitsN_le, Nat.pow_mul]
  have a1 : ∀ k, N.length ≤ k ↔ bitsN (nV N) ≤ 8 * k := fun k => by
    rw [hl, natB_length (by decide), p1]
  have a2 := (a1 N.length).1 (Nat.le_refl _)
  have a3 := (a1 (lenP (bitsN (nV N)))).2 (by unfold lenP; omega)
  unfold lenP at a3 ⊢
  omega
theorem sgn_ok {N E : List Nat} (hp : PubP N E) (bN : Byt N) {way h : Int} {d s : List Nat} : (sgnV N way h d s).2 = 0 ↔ IsHash h.toNat ∧ d.length = mSize h.toNat ∧ ((way = 1 ∧ mSize h.toNat + 30 ≤ N.length) ∨ (way = 2 ∧ s.length = mSize h.toNat ∧ 2 * mSize h.toNat + 2 ≤ lenP (bitsN (nV N) - 1))) := by
  have hl := pub_len hp bN
  obtain ⟨hn, hb1, hb2⟩ := pub_bits hp
  unfold sgnV
  rw [hn]
  by_cases w1 : way = 1
  · rw [if_pos w1, encR_ok]
    constructor
    · rintro ⟨a, b, c, e⟩
      exact ⟨a, b, .inl ⟨w1, by omega⟩⟩
    · rintro ⟨a, b, c | c⟩
      · exact ⟨a, b, by omega, by rw [hl]; unfold lenP; omega⟩
      · omega
  rw [if_neg w1]
  by_cases w2 : way = 2
  · rw [if_pos w2]
    by_cases hs : s.length = hSz h
    · rw [if_pos hs, pssV_ok]
      unfold RoomP
      have hz : ∀ (a : IsHash h.toNat), hSz h = mSize h.toNat := fun a => hSz_yes a
      rw [show ((bitsN (nV N) : Int) - 1).toNat = bitsN (nV N) - 1 by omega]
      constructor
      · rintro ⟨⟨a, b, c, e, f⟩, g⟩
        exact ⟨a, g, .inr ⟨w2, by rw [hs, hz a], by rw [hs, hz a] at f; omega⟩⟩
      · rintro ⟨a, b, c | ⟨c, e, f⟩⟩
        · omega
        · exact ⟨⟨a, by omega, by omega, by omega, by omega⟩, b⟩
    · rw [if_neg hs]
      constructor
      · intro e; cases e
      · rintro ⟨a, b, c | ⟨c, e, f⟩⟩
        · omega
        · exact absurd (by rw [e, hSz_yes a]) hs
  · rw [if_neg w2]
    constructor
    · intro e; cases e
    · rintro ⟨a, b, c | c⟩ <;> omega
theorem roomK_iff {N E : List Nat} (bN : Byt N) {way h : Int} : RoomK N E way h ↔ PubP N E ∧ IsHash h.toNat ∧ ((way = 1 ∧ mSize h.toNat + 30 ≤ N.length) ∨ (way = 2 ∧ 2 * mSize h.toNat + 2 ≤ lenP (bitsN (nV N) - 1))) := by
  unfold RoomK
  constructor
  · rintro ⟨hp, h1⟩
    obtain ⟨a, b, c⟩ := (sgn_ok hp bN).1 h1
    exact ⟨hp, a, by rcases c with c | c; exact .inl c; exact .inr ⟨c.1, c.2.2⟩⟩
  · rintro ⟨hp, a, c⟩
    refine ⟨hp, (sgn_ok hp bN).2 ⟨a, by rw [List.length_replicate, hSz_yes a], ?_⟩⟩
    rcases c with c | c
    · exact .inl c
    · exact .inr ⟨c.1, by rw [List.length_replicate, hSz_yes a], c.2⟩
theorem sgn_room {N E : List Nat} (hp : PubP N E) (bN : Byt N) {way h : Int} {d s : List Nat} : (sgnV N way h d s).2 = 0 ↔ RoomK N E way h ∧ d.length = hSz h ∧ (way = 2 → s.length = hSz h) := by
  rw [sgn_ok hp bN, roomK_iff bN]
  constructor
  · rintro ⟨a, b, c⟩
    refine ⟨⟨hp, a, ?_⟩, by rw [b, hSz_yes a], fun e => ?_⟩
    · rcases c with c | c
      · exact .inl c
      · exact .inr ⟨c.1, c.2.2⟩
    · rcases c with c | c
      · omega
      · rw [c.2.1, hSz_yes a]
  · rintro ⟨⟨-, a, c⟩, b, f⟩
    refine ⟨a, by rw [b, hSz_yes a], ?_⟩
    rcases c with c | c
    · exact .inl c
    · exact .inr ⟨c.1, by rw [f c.1, hSz_yes a], c.2⟩
/-- What is signed is below the modulus' length, of bytes. -/
theorem sgn_byt {N E : List Nat} (hp : PubP N E) (bN : Byt N) {way h : Int} {d s : List Nat} (bd : Byt d) (bs : Byt s) : Byt (sgnV N way h d s).1 ∧ (sgnV N way h d s).1.length ≤ 700 := by
  by_cases h0 : (sgnV N way h d s).2 = 0
  · obtain ⟨a, b, c⟩ := (sgn_ok hp bN).1 h0
    have hl := pub_len hp bN
    obtain ⟨hn, hb1, hb2⟩ := pub_bits hp
    have hg := isHash_nat a
    rcases c with ⟨w1, c⟩ | ⟨w2, c, e⟩
    · have e1 : sgnV N way h d s = encR h d (N.length : Int) := by unfold sgnV; rw [if_pos w1]
      rw [e1] at h0 ⊢
      rw [encR_yes h0, Int.toNat_natCast]
      constructor
      · intro x hx
        unfold encL mEncP frameL at hx
        simp only [List.mem_append, List.mem_cons, List.not_mem_nil, or_false, List.mem_replicate] at hx
        rcases hx with ((hx | hx) | hx) | hx | hx
        · rcases hx with rfl | rfl <;> decide
        · rw [hx.2]; decide
        · subst hx; decide
        · exact frameH_lt a x hx
        · exact bd x hx
      · unfold encL mEncP frameL
        simp only [List.length_append, List.length_cons, List.length_nil, List.length_replicate, frameH_len]
        rw [hl] at c ⊢
        unfold lenP at c ⊢
        omega
    · have w1 : way ≠ 1 := by omega
      have e1 : sgnV N way h d s = pssV h d s ((bitsN (numV N) : Int) - 1) := by unfold sgnV; rw [if_neg w1, if_pos w2, if_pos (by rw [c, hSz_yes a])]
      rw [e1] at h0 ⊢
      have hr := pssV_ok.1 h0
      unfold pssV
      rw [if_pos hr]
      have hnn : ((bitsN (numV N) : Int) - 1) = (((bitsN (numV N) : Int) - 1).toNat : Int) := by rw [hn]; omega
      have hrm := hr.1
      rw [hg, hnn] at hrm
      have := ems_fine a d s rfl bs hrm
      exact ⟨this.2.2.2.2, by rw [this.2.2.2.1]; unfold lenP; rw [hn]; omega⟩
  · have hz : (sgnV N way h d s).1 = [] := by
      unfold sgnV at h0 ⊢
      split
      · next w1 => rw [if_pos w1] at h0; exact encR_no h0
      · next w1 =>
        rw [if_neg w1] at h0
        split
        · next w2 =>
          rw [if_pos w2] at h0
          split
          · next e =>
            rw [if_pos e] at h0
            unfold pssV at h0 ⊢
            split
            · next k => rw [if_pos k] at h0; exact absurd rfl h0
            · rfl
          · rfl
        · rfl
    rw [hz]
    exact ⟨fun x hx => (by cases hx), Nat.zero_le _⟩
end Go.Proofs.YtpefjkndfifceaaDoor

namespace Go.Proofs.YtpefjkndfifceaaDoor
open Go.RowKit
set_option maxRecDepth 100000

theorem krbits (k : Value) (N E D : List Nat) (t : Nat) (w : World) (hkey : KeyAt w k N E D) (ht : bitsN (nV N) = t + 1) :
    Calls Tryd.prog 21 #[k] w fun e w' => e = .returned (.int .i64 (t : Int)) ∧ Below w.heap.size w w' := by
  have HSN := Lib.hid (key_small hkey.small.1.1 hkey.small.1.2)
  have ht9 : t ≤ 8192 := by
    have h1 := HSN.out
    rw [topN_two] at h1
    have := (bitsN_le (nV N) 8192).2 h1
    omega
  have HT := Lib.hid (show t + 1 = bitsN (val32 (nat32 (nV N))) by rw [val_nat]; exact ht.symm)
  have e1 : ((t + 1 : Nat) : Int) - 1 = (t : Int) := by omega
  have e1' : (t : Int) + 1 - 1 = (t : Int) := by omega
  clear ht
  obtain ⟨na, nn, nc, ea, en, ec, da, dn, dc, rfl, ⟨hN, bN, ln⟩, ⟨hE, bE, le⟩, hD, bD, ld⟩ := hkey
  have hkey : KeyAt w (.agg #[.slice na nn nc, .slice ea en ec, .slice da dn dc]) N E D := ⟨na, nn, nc, ea, en, ec, da, dn, dc, rfl, ⟨hN, bN, ln⟩, ⟨hE, bE, le⟩, hD, bD, ld⟩
  have HNL := Lib.hid hN.length
  have HSM := Lib.hid hkey.small
  have HRN := Lib.hid hN
  have HBN := Lib.hid bN
  have hba := (Below.refl w.heap.size w).alloc (Nat.le_refl _) (.cells #[.slice na nn nc, .slice ea en ec, .slice da dn dc] 24)
  have hq0 : (w.alloc (.cells #[.slice na nn nc, .slice ea en ec, .slice da dn dc] 24)).heap[w.heap.size]? = some (.cells #[.slice na nn nc, .slice ea en ec, .slice da dn dc] 24) := World.alloc_heap_new w _
  have HQ0 := Lib.hid hq0
  have HB := Lib.hid hba
  have HKey0 := Lib.hid hkey
  clear hN bN hE bE hD bD hba hq0 hkey
  go_enter Tryd.func21, Tryd.ntmps21
  go_wp2_with fail
  have HZ0 := Lib.hid (World.size_alloc w (.cells #[.slice na nn nc, .slice ea en ec, .slice da dn dc] 24))
  generalize w.alloc (.cells #[.slice na nn nc, .slice ea en ec, .slice da dn dc] 24) = w0 at *
  obtain ⟨P, hP⟩ : ∃ P, w.heap.size = P := ⟨_, rfl⟩
  rw [hP] at HQ0 HZ0 ⊢
  have HPW := Lib.hid hP
  have HQ : Hid (∀ X, Below w0.heap.size w0 X → X.heap[P]? = some (.cells #[.slice na nn nc, .slice ea en ec, .slice da dn dc] 24)) := Lib.hid fun X hX => (hX.block P (Array.getElem?_eq_some_iff.1 HQ0.out).1).trans HQ0.out
  have HKey : Hid (∀ X, Below w0.heap.size w0 X → KeyAt X (.agg #[.slice na nn nc, .slice ea en ec, .slice da dn dc]) N E D) := Lib.hid fun X hX => (HKey0.out.below HB.out).below hX
  clear hP HQ0
  have HC := Lib.hid (Below.refl w0.heap.size w0)
  obtain ⟨k0, k1, k2⟩ := key_cells (HQ.out _ HC.out)
  go_wp2_with fail
  refine (number_r na nn nc N w0 (HRN.out.below HB.out) HBN.out ln).mono ?_
  rintro e w1 ⟨⟨v, rfl, hv⟩, hb⟩
  obtain ⟨a1, n1, c1, rfl, hn1, ho⟩ := num_slice hv HSN.out
  have HN1 := Lib.hid ho.reads
  replace HC := Lib.hid (HC.out.trans (hb.mono HC.out.size))
  clear k0 k1 k2 hv ho hb
  go_wp2_with fail
  refine (rf.bits_any a1 n1 c1 _ _ HN1.out (lim_nat _) (by omega) (t + 1) HT.out).mono ?_
  rintro e w2 ⟨rfl, hb⟩
  replace HC := Lib.hid (HC.out.trans (hb.mono HC.out.size))
  clear hb
  go_wp2
  go_ret
  exact ⟨by simp, HPW.out ▸ (HB.out.trans (HC.out.mono HB.out.size))⟩

open Classical in
set_option maxHeartbeats 8000000 in
theorem krroom_any (k : Value) (N E D : List Nat) (way h : Int) (w : World) (hkey : KeyAt w k N E D) :
    Calls Tryd.prog 10 #[k, .int .i64 way, .int .i64 h] w fun e w' => e = .returned (.bool (decide (RoomK N E way h))) ∧ Below w.heap.size w w' := by
  obtain ⟨r, hr⟩ : ∃ r, decide (RoomK N E way h) = r := ⟨_, rfl⟩
  have HNO := Lib.hid (show ¬ RoomK N E way h → r = false from fun k => by rw [← hr]; exact decide_eq_false k)
  have HYES := Lib.hid (show RoomK N E way h → r = true from fun k => by rw [← hr]; exact decide_eq_true k)
  rw [hr]
  clear hr
  have hz := hSz_le h
  obtain ⟨z, hze⟩ : ∃ z, hSz h = z := ⟨_, rfl⟩
  rw [hze] at hz
  have HZ := Lib.hid hze
  clear hze
  obtain ⟨na, nn, nc, ea, en, ec, da, dn, dc, rfl, ⟨hN, bN, ln⟩, ⟨hE, bE, le⟩, hD, bD, ld⟩ := hkey
  have hkey : KeyAt w (.agg #[.slice na nn nc, .slice ea en ec, .slice da dn dc]) N E D := ⟨na, nn, nc, ea, en, ec, da, dn, dc, rfl, ⟨hN, bN, ln⟩, ⟨hE, bE, le⟩, hD, bD, ld⟩
  have HNL := Lib.hid hN.length
  have HSM := Lib.hid hkey.small
  have hba := (Below.refl w.heap.size w).alloc (Nat.le_refl _) (.cells #[.slice na nn nc, .slice ea en ec, .slice da dn dc] 24)
  have hq0 : (w.alloc (.cells #[.slice na nn nc, .slice ea en ec, .slice da dn dc] 24)).heap[w.heap.size]? = some (.cells #[.slice na nn nc, .slice ea en ec, .slice da dn dc] 24) := World.alloc_heap_new w _
  have HQ0 := Lib.hid hq0
  have HB := Lib.hid hba
  have HKey0 := Lib.hid hkey
  clear hN bN hE bE hD bD hba hq0 hkey
  go_enter Tryd.func10, Tryd.ntmps10
  go_wp2_with fail
  have HZ0 := Lib.hid (World.size_alloc w (.cells #[.slice na nn nc, .slice ea en ec, .slice da dn dc] 24))
  generalize w.alloc (.cells #[.slice na nn nc, .slice ea en ec, .slice da dn dc] 24) = w0 at *
  obtain ⟨P, hP⟩ : ∃ P, w.heap.size = P := ⟨_, rfl⟩
  rw [hP] at HQ0 HZ0 ⊢
  have HPW := Lib.hid hP
  have HQ : Hid (∀ X, Below w0.heap.size w0 X → X.heap[P]? = some (.cells #[.slice na nn nc, .slice ea en ec, .slice da dn dc] 24)) := Lib.hid fun X hX => (hX.block P (Array.getElem?_eq_some_iff.1 HQ0.out).1).trans HQ0.out
  have HKey : Hid (∀ X, Below w0.heap.size w0 X → KeyAt X (.agg #[.slice na nn nc, .slice ea en ec, .slice da dn dc]) N E D) := Lib.hid fun X hX => (HKey0.out.below HB.out).below hX
  clear hP HQ0
  have HC := Lib.hid (Below.refl w0.heap.size w0)
  obtain ⟨k0, k1, k2⟩ := key_cells (HQ.out _ HC.out)
  go_wp2_with fail
  refine (krpublic _ N E D _ (HKey.out _ HC.out)).mono ?_
  rintro e w1 ⟨rfl, hb⟩
  replace HC := Lib.hid (HC.out.trans (hb.mono HC.out.size))
  clear hb k0 k1 k2
  obtain ⟨pe, hpe⟩ : ∃ pe, pubE N E = pe := ⟨_, rfl⟩
  have HPE := Lib.hid hpe
  rw [hpe]
  clear hpe
  go_wp2_with fail
  refine (rsize_any h _).mono ?_
  rintro e w2 ⟨rfl, rfl⟩
  rw [rSize_hSz, HZ.out]
  by_cases hp : PubP N E
  rotate_left
  · obtain rfl : pe = 100 := by rw [← HPE.out]; unfold pubE; rw [if_neg hp]
    have HF := Lib.hid (HNO.out fun k => hp k.1)
    clear hp
    go_wp2
    go_ret
    exact ⟨by rw [HF.out]; rfl, HPW.out ▸ (HB.out.trans (HC.out.mono HB.out.size))⟩
  obtain rfl : pe = 0 := by rw [← HPE.out]; unfold pubE; rw [if_pos hp]
  have HP := Lib.hid hp
  have HIF := Lib.hid (roomK_iff (N := N) (E := E) (way := way) (h := h) HSM.out.1.1)
  clear hp
  by_cases hz0 : z = 0
  · subst hz0
    have HF := Lib.hid (HNO.out fun k => by
      obtain ⟨-, a, -⟩ := HIF.out.1 k
      have h1 := hSz_yes a
      have h2 := mSize_le a
      have h3 := HZ.out
      omega)
    go_wp2
    go_ret
    exact ⟨by rw [HF.out]; rfl, HPW.out ▸ (HB.out.trans (HC.out.mono HB.out.size))⟩
  have t1 : ((z : Int) == 0) = false := by simp; omega
  have t2 : (z == 0) = false := by simpa using hz0
  have HH := Lib.hid (show IsHash h.toNat ∧ mSize h.toNat = z from by
    by_cases a : IsHash h.toNat
    · exact ⟨a, by rw [← hSz_yes a]; exact HZ.out⟩
    · exact absurd (by rw [← HZ.out]; exact hSz_no a) hz0)
  clear hz0
  by_cases w1 : way = 1
  · subst w1
    obtain ⟨k0, k1, k2⟩ := key_cells (HQ.out _ HC.out)
    have HR := Lib.hid (show r = decide (z + 30 ≤ nn) from by
      by_cases k : z + 30 ≤ nn
      · rw [decide_eq_true k]
        exact HYES.out (HIF.out.2 ⟨HP.out, HH.out.1, .inl ⟨rfl, by rw [HH.out.2, HNL.out]; exact k⟩⟩)
      · rw [decide_eq_false k]
        refine HNO.out fun e => k ?_
        obtain ⟨-, -, c | c⟩ := HIF.out.1 e
        · have := c.2; rw [HH.out.2, HNL.out] at this; exact this
        · omega)
    by_cases k : z + 30 ≤ nn
    · have u1 : decide ((z : Int) + 19 + 11 ≤ (nn : Int)) = true := decide_eq_true (by omega)
      have u2 : decide (z + 19 + 11 ≤ nn) = true := decide_eq_true (by omega)
      have HF := Lib.hid (show r = true by rw [HR.out]; exact decide_eq_true k)
      clear k
      go_wp2
      go_ret
      exact ⟨by rw [HF.out]; rfl, HPW.out ▸ (HB.out.trans (HC.out.mono HB.out.size))⟩
    · have u1 : decide ((z : Int) + 19 + 11 ≤ (nn : Int)) = false := decide_eq_false (by omega)
      have u2 : decide (z + 19 + 11 ≤ nn) = false := decide_eq_false (by omega)
      have HF := Lib.hid (show r = false by rw [HR.out]; exact decide_eq_false k)
      clear k
      go_wp2
      go_ret
      exact ⟨by rw [HF.out]; rfl, HPW.out ▸ (HB.out.trans (HC.out.mono HB.out.size))⟩
  have t3 : (way == 1) = false := by simpa using w1
  by_cases w2x : way = 2
  rotate_left
  · have t4 : (way == 2) = false := by simpa using w2x
    have HF := Lib.hid (HNO.out fun e => by
      obtain ⟨-, -, c | c⟩ := HIF.out.1 e
      · exact w1 c.1
      · exact w2x c.1)
    clear w1 w2x
    go_wp2
    go_ret
    exact ⟨by rw [HF.out]; rfl, HPW.out ▸ (HB.out.trans (HC.out.mono HB.out.size))⟩
  subst w2x
  clear w1 t3
  obtain ⟨hnN, hb1, hb2⟩ := pub_bits HP.out
  obtain ⟨t, ht⟩ : ∃ t, bitsN (nV N) = t + 1 := ⟨bitsN (nV N) - 1, by omega⟩
  obtain ⟨m, hm⟩ : ∃ m, lenP t = m := ⟨_, rfl⟩
  have HT := Lib.hid ht
  have ht9 : t ≤ 4096 := by omega
  have hm9 : m ≤ 600 := by rw [← hm]; unfold lenP; omega
  have e2 : ((t : Int) + 7) / 8 = (m : Int) := by rw [← hm]; unfold lenP; omega
  have e3 : Int.tdiv ((t : Int) + 7) 8 = (m : Int) := by rw [Int.tdiv_eq_ediv_of_nonneg (by omega), e2]
  have e4 : (t + 7) / 8 = m := by rw [← hm]; rfl
  have HR := Lib.hid (show r = decide (2 * z + 2 ≤ m) from by
    have he : bitsN (nV N) - 1 = t := by omega
    by_cases k : 2 * z + 2 ≤ m
    · rw [decide_eq_true k]
      exact HYES.out (HIF.out.2 ⟨HP.out, HH.out.1, .inr ⟨rfl, by rw [HH.out.2, he, hm]; exact k⟩⟩)
    · rw [decide_eq_false k]
      refine HNO.out fun e => k ?_
      obtain ⟨-, -, c | c⟩ := HIF.out.1 e
      · omega
      · have := c.2; rw [HH.out.2, he, hm] at this; exact this)
  clear hnN hb1 hb2 ht hm
  obtain ⟨k0, k1, k2⟩ := key_cells (HQ.out _ HC.out)
  go_wp2_with fail
  refine (krbits _ N E D t _ (HKey.out _ HC.out) HT.out).mono ?_
  rintro e w3 ⟨rfl, hb⟩
  replace HC := Lib.hid (HC.out.trans (hb.mono HC.out.size))
  clear hb k0 k1 k2
  by_cases k : 2 * z + 2 ≤ m
  · have u1 : decide (2 * (z : Int) + 2 ≤ (m : Int)) = true := decide_eq_true (by omega)
    have u2 : decide (2 * z + 2 ≤ m) = true := decide_eq_true (by omega)
    have HF := Lib.hid (show r = true by rw [HR.out]; exact decide_eq_true k)
    clear k
    go_wp2
    go_ret
    exact ⟨by rw [HF.out]; first | rfl | simp [u1, u2, e2], HPW.out ▸ (HB.out.trans (HC.out.mono HB.out.size))⟩
  · have u1 : decide (2 * (z : Int) + 2 ≤ (m : Int)) = false := decide_eq_false (by omega)
    have u2 : decide (2 * z + 2 ≤ m) = false := decide_eq_false (by omega)
    have HF := Lib.hid (show r = false by rw [HR.out]; exact decide_eq_false k)
    clear k
    go_wp2
    go_ret
    exact ⟨by rw [HF.out]; first | rfl | simp [u1, u2, e2], HPW.out ▸ (HB.out.trans (HC.out.mono HB.out.size))⟩
end Go.Proofs.YtpefjkndfifceaaDoor

namespace Go.Proofs.YtpefjkndfifceaaDoor
open Go.RowKit
set_option maxRecDepth 100000

set_option maxHeartbeats 8000000 in
theorem signed_any (k : Value) (N E D : List Nat) (way h : Int) (ga : Option Addr) (gn gc : Nat) (d : List Nat) (sa : Option Addr) (sn sc : Nat) (s : List Nat) (w : World) (hkey : KeyAt w k N E D) (hk : Kinds w) (hd : Reads .u8 w ga gn gc d) (hs : Reads .u8 w sa sn sc s) (bd : Byt d) (bs : Byt s) :
    Calls Tryd.prog 19 #[k, .int .i64 way, .int .i64 h, .slice ga gn gc, .slice sa sn sc] w fun e w' => (∃ a n c, e = .returned (.tuple #[.slice a n c, .int .i64 (sgnV N way h d s).2]) ∧ OwnQ .u8 5 w.heap.size w' (.slice a n c) (sgnV N way h d s).1) ∧ Below w.heap.size w w' := by
  obtain ⟨R, hR⟩ : ∃ R, sgnV N way h d s = R := ⟨_, rfl⟩
  rw [hR]
  have HBd := Lib.hid bd
  have HBs := Lib.hid bs
  have HSL := Lib.hid hs.length
  have HDL := Lib.hid hd.length
  clear bd bs
  by_cases w1 : way = 1
  · subst w1
    have HR := Lib.hid (show R = encR h d (N.length : Int) by rw [← hR]; unfold sgnV; rw [if_pos rfl])
    clear hR
    obtain ⟨na, nn, nc, ea, en, ec, da, dn, dc, rfl, ⟨hN, bN, ln⟩, ⟨hE, bE, le⟩, hD, bD, ld⟩ := hkey
    have hkey : KeyAt w (.agg #[.slice na nn nc, .slice ea en ec, .slice da dn dc]) N E D := ⟨na, nn, nc, ea, en, ec, da, dn, dc, rfl, ⟨hN, bN, ln⟩, ⟨hE, bE, le⟩, hD, bD, ld⟩
    have HNL := Lib.hid hN.length
    have HSM := Lib.hid hkey.small
    have hba := (Below.refl w.heap.size w).alloc (Nat.le_refl _) (.cells #[.slice na nn nc, .slice ea en ec, .slice da dn dc] 24)
    have hq0 : (w.alloc (.cells #[.slice na nn nc, .slice ea en ec, .slice da dn dc] 24)).heap[w.heap.size]? = some (.cells #[.slice na nn nc, .slice ea en ec, .slice da dn dc] 24) := World.alloc_heap_new w _
    have HQ0 := Lib.hid hq0
    have HB := Lib.hid hba
    have HKey0 := Lib.hid hkey
    have HKs0 := Lib.hid hk
    have HD0 := Lib.hid hd
    have HS0 := Lib.hid hs
    clear hN bN hE bE hD bD hba hq0 hkey hk hd hs
    go_enter Tryd.func19, Tryd.ntmps19
    go_wp2_with fail
    have HZ0 := Lib.hid (World.size_alloc w (.cells #[.slice na nn nc, .slice ea en ec, .slice da dn dc] 24))
    generalize w.alloc (.cells #[.slice na nn nc, .slice ea en ec, .slice da dn dc] 24) = w0 at *
    obtain ⟨P, hP⟩ : ∃ P, w.heap.size = P := ⟨_, rfl⟩
    rw [hP] at HQ0 HZ0 ⊢
    have HPW := Lib.hid hP
    have HQ : Hid (∀ X, Below w0.heap.size w0 X → X.heap[P]? = some (.cells #[.slice na nn nc, .slice ea en ec, .slice da dn dc] 24)) := Lib.hid fun X hX => (hX.block P (Array.getElem?_eq_some_iff.1 HQ0.out).1).trans HQ0.out
    have HKey : Hid (∀ X, Below w0.heap.size w0 X → KeyAt X (.agg #[.slice na nn nc, .slice ea en ec, .slice da dn dc]) N E D) := Lib.hid fun X hX => (HKey0.out.below HB.out).below hX
    have HKs : Hid (∀ X, Below w0.heap.size w0 X → Kinds X) := Lib.hid fun X hX => (HKs0.out.below HB.out).below hX
    have HD := Lib.hid (fun (X : World) (hX : Below w0.heap.size w0 X) => (HD0.out.below HB.out).below hX)
    have HS := Lib.hid (fun (X : World) (hX : Below w0.heap.size w0 X) => (HS0.out.below HB.out).below hX)
    clear hP HQ0
    have HC := Lib.hid (Below.refl w0.heap.size w0)
    obtain ⟨k0, k1, k2⟩ := key_cells (HQ.out _ HC.out)
    go_wp2_with fail
    refine (encode_any h ga gn gc d (nn : Int) _ (HKs.out _ HC.out) (HD.out _ HC.out)).mono ?_
    rintro e w1 ⟨⟨v, rfl, hv⟩, hb⟩
    rw [show encR h d (nn : Int) = R by rw [HR.out, HNL.out]] at hv ⊢
    obtain ⟨a1, n1, c1, rfl, -, ho⟩ := own_slM hv
    have HO := Lib.hid ho
    replace HC := Lib.hid (HC.out.trans (hb.mono HC.out.size))
    clear hb hv ho k0 k1 k2
    go_wp2
    go_ret2
    exact ⟨⟨a1, n1, c1, rfl, HO.out.mono (by have h1 := HB.out.size; have h3 := HPW.out; omega)⟩, HPW.out ▸ (HB.out.trans (HC.out.mono HB.out.size))⟩

  have t1 : (way == 1) = false := by simpa using w1
  by_cases w2 : way = 2
  rotate_left
  · have t2 : (way == 2) = false := by simpa using w2
    have HR := Lib.hid (show R = ([], 101) by rw [← hR]; unfold sgnV; rw [if_neg w1, if_neg w2])
    clear hR w1 w2
    obtain ⟨na, nn, nc, ea, en, ec, da, dn, dc, rfl, ⟨hN, bN, ln⟩, ⟨hE, bE, le⟩, hD, bD, ld⟩ := hkey
    have hkey : KeyAt w (.agg #[.slice na nn nc, .slice ea en ec, .slice da dn dc]) N E D := ⟨na, nn, nc, ea, en, ec, da, dn, dc, rfl, ⟨hN, bN, ln⟩, ⟨hE, bE, le⟩, hD, bD, ld⟩
    have HNL := Lib.hid hN.length
    have HSM := Lib.hid hkey.small
    have hba := (Below.refl w.heap.size w).alloc (Nat.le_refl _) (.cells #[.slice na nn nc, .slice ea en ec, .slice da dn dc] 24)
    have hq0 : (w.alloc (.cells #[.slice na nn nc, .slice ea en ec, .slice da dn dc] 24)).heap[w.heap.size]? = some (.cells #[.slice na nn nc, .slice ea en ec, .slice da dn dc] 24) := World.alloc_heap_new w _
    have HQ0 := Lib.hid hq0
    have HB := Lib.hid hba
    have HKey0 := Lib.hid hkey
    have HKs0 := Lib.hid hk
    have HD0 := Lib.hid hd
    have HS0 := Lib.hid hs
    clear hN bN hE bE hD bD hba hq0 hkey hk hd hs
    go_enter Tryd.func19, Tryd.ntmps19
    go_wp2_with fail
    have HZ0 := Lib.hid (World.size_alloc w (.cells #[.slice na nn nc, .slice ea en ec, .slice da dn dc] 24))
    generalize w.alloc (.cells #[.slice na nn nc, .slice ea en ec, .slice da dn dc] 24) = w0 at *
    obtain ⟨P, hP⟩ : ∃ P, w.heap.size = P := ⟨_, rfl⟩
    rw [hP] at HQ0 HZ0 ⊢
    have HPW := Lib.hid hP
    have HQ : Hid (∀ X, Below w0.heap.size w0 X → X.heap[P]? = some (.cells #[.slice na nn nc, .slice ea en ec, .slice da dn dc] 24)) := Lib.hid fun X hX => (hX.block P (Array.getElem?_eq_some_iff.1 HQ0.out).1).trans HQ0.out
    have HKey : Hid (∀ X, Below w0.heap.size w0 X → KeyAt X (.agg #[.slice na nn nc, .slice ea en ec, .slice da dn dc]) N E D) := Lib.hid fun X hX => (HKey0.out.below HB.out).below hX
    have HKs : Hid (∀ X, Below w0.heap.size w0 X → Kinds X) := Lib.hid fun X hX => (HKs0.out.below HB.out).below hX
    have HD := Lib.hid (fun (X : World) (hX : Below w0.heap.size w0 X) => (HD0.out.below HB.out).below hX)
    have HS := Lib.hid (fun (X : World) (hX : Below w0.heap.size w0 X) => (HS0.out.below HB.out).below hX)
    clear hP HQ0
    have HC := Lib.hid (Below.refl w0.heap.size w0)
    go_wp2
    go_ret2
    exact ⟨⟨none, 0, 0, by rw [HR.out]; rfl, by rw [HR.out]; exact OwnQ.nil _ _ _ _⟩, HPW.out ▸ (HB.out.trans (HC.out.mono HB.out.size))⟩

  subst w2
  have HR := Lib.hid (show R = (if s.length = hSz h then pssV h d s ((bitsN (numV N) : Int) - 1) else ([], 101)) by rw [← hR]; unfold sgnV; rw [if_neg (by decide), if_pos rfl])
  clear hR w1 t1
  have hz := hSz_le h
  obtain ⟨z, hz2⟩ : ∃ z, hSz h = z := ⟨_, rfl⟩
  rw [hz2] at hz
  have HZ := Lib.hid hz2
  obtain ⟨b, hb2⟩ : ∃ b, bitsN (numV N) = b := ⟨_, rfl⟩
  have HBB := Lib.hid hb2
  have hb9 : b ≤ 8192 := by
    rw [← hb2]
    have h1 := numV_small hkey.small.1.1 hkey.small.1.2
    rw [topN_two] at h1
    exact (bitsN_le (numV N) 8192).2 h1
  clear hz2 hb2
  obtain ⟨na, nn, nc, ea, en, ec, da, dn, dc, rfl, ⟨hN, bN, ln⟩, ⟨hE, bE, le⟩, hD, bD, ld⟩ := hkey
  have hkey : KeyAt w (.agg #[.slice na nn nc, .slice ea en ec, .slice da dn dc]) N E D := ⟨na, nn, nc, ea, en, ec, da, dn, dc, rfl, ⟨hN, bN, ln⟩, ⟨hE, bE, le⟩, hD, bD, ld⟩
  have HNL := Lib.hid hN.length
  have HSM := Lib.hid hkey.small
  have hba := (Below.refl w.heap.size w).alloc (Nat.le_refl _) (.cells #[.slice na nn nc, .slice ea en ec, .slice da dn dc] 24)
  have hq0 : (w.alloc (.cells #[.slice na nn nc, .slice ea en ec, .slice da dn dc] 24)).heap[w.heap.size]? = some (.cells #[.slice na nn nc, .slice ea en ec, .slice da dn dc] 24) := World.alloc_heap_new w _
  have HQ0 := Lib.hid hq0
  have HB := Lib.hid hba
  have HKey0 := Lib.hid hkey
  have HKs0 := Lib.hid hk
  have HD0 := Lib.hid hd
  have HS0 := Lib.hid hs
  clear hN bN hE bE hD bD hba hq0 hkey hk hd hs
  go_enter Tryd.func19, Tryd.ntmps19
  go_wp2_with fail
  have HZ0 := Lib.hid (World.size_alloc w (.cells #[.slice na nn nc, .slice ea en ec, .slice da dn dc] 24))
  generalize w.alloc (.cells #[.slice na nn nc, .slice ea en ec, .slice da dn dc] 24) = w0 at *
  obtain ⟨P, hP⟩ : ∃ P, w.heap.size = P := ⟨_, rfl⟩
  rw [hP] at HQ0 HZ0 ⊢
  have HPW := Lib.hid hP
  have HQ : Hid (∀ X, Below w0.heap.size w0 X → X.heap[P]? = some (.cells #[.slice na nn nc, .slice ea en ec, .slice da dn dc] 24)) := Lib.hid fun X hX => (hX.block P (Array.getElem?_eq_some_iff.1 HQ0.out).1).trans HQ0.out
  have HKey : Hid (∀ X, Below w0.heap.size w0 X → KeyAt X (.agg #[.slice na nn nc, .slice ea en ec, .slice da dn dc]) N E D) := Lib.hid fun X hX => (HKey0.out.below HB.out).below hX
  have HKs : Hid (∀ X, Below w0.heap.size w0 X → Kinds X) := Lib.hid fun X hX => (HKs0.out.below HB.out).below hX
  have HD := Lib.hid (fun (X : World) (hX : Below w0.heap.size w0 X) => (HD0.out.below HB.out).below hX)
  have HS := Lib.hid (fun (X : World) (hX : Below w0.heap.size w0 X) => (HS0.out.below HB.out).below hX)
  clear hP HQ0
  have HC := Lib.hid (Below.refl w0.heap.size w0)
  go_wp2_with fail
  refine (msize_any h _ (HKs.out _ HC.out)).mono ?_
  rintro e w1 ⟨rfl, hb⟩
  rw [HZ.out]
  replace HC := Lib.hid (HC.out.trans (hb.mono HC.out.size))
  clear hb
  by_cases hsz : sn = z
  rotate_left
  · have t1 : ((sn : Int) == (z : Int)) = false := by simp; omega
    have t2 : (sn == z) = false := by simpa using hsz
    have HF := Lib.hid (show R = ([], 101) by rw [HR.out, if_neg (by rw [HSL.out, HZ.out]; exact hsz)])
    clear hsz
    go_wp2
    go_ret2
    exact ⟨⟨none, 0, 0, by rw [HF.out]; rfl, by rw [HF.out]; exact OwnQ.nil _ _ _ _⟩, HPW.out ▸ (HB.out.trans (HC.out.mono HB.out.size))⟩
  subst hsz
  have HF := Lib.hid (show R = pssV h d s ((b : Int) - 1) by rw [HR.out, if_pos (by rw [HSL.out, HZ.out]), HBB.out])
  have t1 : ((sn : Int) == (sn : Int)) = true := by simp
  have t2 : (sn == sn) = true := by simp
  obtain ⟨k0, k1, k2⟩ := key_cells (HQ.out _ HC.out)
  go_wp2_with fail
  refine (kbits _ N E D _ (HKey.out _ HC.out)).mono ?_
  rintro e w2 ⟨rfl, hb⟩
  rw [HBB.out]
  replace HC := Lib.hid (HC.out.trans (hb.mono HC.out.size))
  clear hb k0 k1 k2
  go_wp2_with fail
  refine (pencode_any h ga gn gc d sa sn sc s ((b : Int) - 1) (by omega) (by omega) (by omega) _ (HKs.out _ HC.out) (HD.out _ HC.out) (HS.out _ HC.out) HBd.out HBs.out).mono ?_
  rintro e w3 ⟨hb, ⟨hok, g, rfl, ho⟩ | ⟨hno, rfl⟩⟩
  · have HO := Lib.hid ho
    have HZ2 := Lib.hid HC.out.size
    have HG := Lib.hid (show R = (emsP h.toNat d s ((b : Int) - 1).toNat, 0) by rw [HF.out]; unfold pssV; rw [if_pos ⟨by rw [HSL.out]; exact hok.1, by rw [HDL.out]; exact hok.2⟩])
    replace HC := Lib.hid (HC.out.trans (hb.mono HC.out.size))
    clear hb ho hok
    generalize lenP ((b : Int) - 1).toNat = ll at *
    go_wp2
    go_ret2
    exact ⟨⟨some ⟨g, 0, none⟩, ll, ll, by rw [HG.out]; rfl, by rw [HG.out]; exact HO.out.mono (by have h1 := HB.out.size; have h2 := HZ2.out; have h3 := HPW.out; omega)⟩, HPW.out ▸ (HB.out.trans (HC.out.mono HB.out.size))⟩
  · have HG := Lib.hid (show R = ([], 90) by rw [HF.out]; unfold pssV; rw [if_neg (fun k => hno ⟨by rw [← HSL.out]; exact k.1, by rw [← HDL.out]; exact k.2⟩)])
    replace HC := Lib.hid (HC.out.trans (hb.mono HC.out.size))
    clear hb hno
    go_wp2
    go_ret2
    exact ⟨⟨none, 0, 0, by rw [HG.out]; rfl, by rw [HG.out]; exact OwnQ.nil _ _ _ _⟩, HPW.out ▸ (HB.out.trans (HC.out.mono HB.out.size))⟩

open Classical in
theorem roomK_dec {N E : List Nat} {way h : Int} {z : Nat} {q : Int} (hz : hSz h = z) (hp : PubP N E) (hq : (sgnV N way h (List.replicate z 0) (List.replicate z 0)).2 = q) : decide (RoomK N E way h) = decide (q = 0) := by
  subst hz
  by_cases k : q = 0
  · rw [decide_eq_true k]
    exact decide_eq_true (show RoomK N E way h from ⟨hp, hq.trans k⟩)
  · rw [decide_eq_false k]
    exact decide_eq_false fun e : RoomK N E way h => k (hq.symm.trans e.2)
open Classical in
set_option maxHeartbeats 8000000 in
theorem kroom_any (k : Value) (N E D : List Nat) (way h : Int) (w : World) (hkey : KeyAt w k N E D) (hk : Kinds w) :
    Calls Tryd.prog 9 #[k, .int .i64 way, .int .i64 h] w fun e w' => e = .returned (.bool (decide (RoomK N E way h))) ∧ Below w.heap.size w w' := by
  obtain ⟨i0, hi0, hz0, hz1, hz2⟩ := info_parts infoMk
  obtain ⟨r, hr⟩ : ∃ r, decide (RoomK N E way h) = r := ⟨_, rfl⟩
  have HRR := Lib.hid hr
  rw [hr]
  clear hr
  have hz := hSz_le h
  obtain ⟨z, hze⟩ : ∃ z, hSz h = z := ⟨_, rfl⟩
  rw [hze] at hz
  have HZ := Lib.hid hze
  clear hze
  obtain ⟨na, nn, nc, ea, en, ec, da, dn, dc, rfl, ⟨hN, bN, ln⟩, ⟨hE, bE, le⟩, hD, bD, ld⟩ := hkey
  have hkey : KeyAt w (.agg #[.slice na nn nc, .slice ea en ec, .slice da dn dc]) N E D := ⟨na, nn, nc, ea, en, ec, da, dn, dc, rfl, ⟨hN, bN, ln⟩, ⟨hE, bE, le⟩, hD, bD, ld⟩
  have HNL := Lib.hid hN.length
  have HSM := Lib.hid hkey.small
  have hba := (Below.refl w.heap.size w).alloc (Nat.le_refl _) (.cells #[.slice na nn nc, .slice ea en ec, .slice da dn dc] 24)
  have hq0 : (w.alloc (.cells #[.slice na nn nc, .slice ea en ec, .slice da dn dc] 24)).heap[w.heap.size]? = some (.cells #[.slice na nn nc, .slice ea en ec, .slice da dn dc] 24) := World.alloc_heap_new w _
  have HQ0 := Lib.hid hq0
  have HB := Lib.hid hba
  have HKey0 := Lib.hid hkey
  have HKs0 := Lib.hid hk
  clear hN bN hE bE hD bD hba hq0 hkey hk
  go_enter Tryd.func9, Tryd.ntmps9
  go_wp2_with fail
  have HZ0 := Lib.hid (World.size_alloc w (.cells #[.slice na nn nc, .slice ea en ec, .slice da dn dc] 24))
  generalize w.alloc (.cells #[.slice na nn nc, .slice ea en ec, .slice da dn dc] 24) = w0 at *
  obtain ⟨P, hP⟩ : ∃ P, w.heap.size = P := ⟨_, rfl⟩
  rw [hP] at HQ0 HZ0 ⊢
  have HPW := Lib.hid hP
  have HQ : Hid (∀ X, Below w0.heap.size w0 X → X.heap[P]? = some (.cells #[.slice na nn nc, .slice ea en ec, .slice da dn dc] 24)) := Lib.hid fun X hX => (hX.block P (Array.getElem?_eq_some_iff.1 HQ0.out).1).trans HQ0.out
  have HKey : Hid (∀ X, Below w0.heap.size w0 X → KeyAt X (.agg #[.slice na nn nc, .slice ea en ec, .slice da dn dc]) N E D) := Lib.hid fun X hX => (HKey0.out.below HB.out).below hX
  have HKs : Hid (∀ X, Below w0.heap.size w0 X → Kinds X) := Lib.hid fun X hX => (HKs0.out.below HB.out).below hX
  clear hP HQ0
  have HC := Lib.hid (Below.refl w0.heap.size w0)
  obtain ⟨k0, k1, k2⟩ := key_cells (HQ.out _ HC.out)
  go_wp2_with fail
  refine (kpublic _ N E D _ (HKey.out _ HC.out)).mono ?_
  rintro e w1 ⟨rfl, hb⟩
  replace HC := Lib.hid (HC.out.trans (hb.mono HC.out.size))
  clear hb k0 k1 k2
  by_cases hp : PubP N E
  rotate_left
  · rw [show pubE N E = 100 by unfold pubE; rw [if_neg hp]]
    have HF := Lib.hid (show r = false by rw [← HRR.out]; exact decide_eq_false fun k => hp k.1)
    clear hp
    go_wp2
    go_ret
    exact ⟨by rw [HF.out]; rfl, HPW.out ▸ (HB.out.trans (HC.out.mono HB.out.size))⟩
  rw [show pubE N E = 0 by unfold pubE; rw [if_pos hp]]
  have HP := Lib.hid hp
  clear hp
  go_wp2_with fail
  refine (msize_any h _ (HKs.out _ HC.out)).mono ?_
  rintro e w2 ⟨rfl, hb⟩
  rw [HZ.out]
  replace HC := Lib.hid (HC.out.trans (hb.mono HC.out.size))
  clear hb
  go_wp2_with (at_make; refine wpList_make_lcM .u8 _ rfl _ _ 22 rfl w2.heap.size 5 i0 Tryd.underlying22 hi0 hz0 hz1 _ _ _ _ z z rfl rfl rfl rfl (Nat.le_refl _) (by rw [hz2]; omega) (by unfold maxLen; omega) (Nat.le_refl _) ?_; intro w3 hown hgrow; have HO := Lib.hid hown; have hb := (Below.refl w2.heap.size w2).grown hgrow (Nat.le_refl _) (fun r e => by cases e); replace HC := Lib.hid (HC.out.trans (hb.mono HC.out.size)); obtain ⟨k0, k1, k2⟩ := key_cells (HQ.out _ HC.out); clear hown hgrow hb)
  generalize w2.heap.size = S2 at *
  refine (signed_any _ N E D way h _ _ _ (List.replicate z 0) _ _ _ (List.replicate z 0) _ (HKey.out _ HC.out) (HKs.out _ HC.out) HO.out.reads HO.out.reads (byt_rep _) (byt_rep _)).mono ?_
  rintro e w4 ⟨⟨a4, n4, c4, rfl, ho⟩, hb⟩
  replace HC := Lib.hid (HC.out.trans (hb.mono HC.out.size))
  clear hb ho k0 k1 k2
  obtain ⟨q, hq⟩ : ∃ q, (sgnV N way h (List.replicate z 0) (List.replicate z 0)).2 = q := ⟨_, rfl⟩
  rw [hq]
  have HQR := Lib.hid (show r = decide (q = 0) by rw [← HRR.out]; exact roomK_dec HZ.out HP.out hq)
  clear hq
  by_cases hq0 : q = 0
  · subst hq0
    have HF := Lib.hid (show r = true by rw [HQR.out]; rfl)
    go_wp2
    go_ret
    exact ⟨by rw [HF.out]; rfl, HPW.out ▸ (HB.out.trans (HC.out.mono HB.out.size))⟩
  · have t1 : (q == 0) = false := by simpa using hq0
    have HF := Lib.hid (show r = false by rw [HQR.out]; exact decide_eq_false hq0)
    clear hq0
    go_wp2
    go_ret
    exact ⟨by rw [HF.out]; rfl, HPW.out ▸ (HB.out.trans (HC.out.mono HB.out.size))⟩
end Go.Proofs.YtpefjkndfifceaaDoor
