/- Part of the proofs: what the functions that the law calls do. -/
import Derived.Test.YtpefjkndfifceaaGreatDoorPkb9
import Derived.Test.YtpefjkndfifceaaGreatDoorPkb11
import Derived.Test.YtpefjkndfifceaaGreatDoorPkb12
import Derived.Test.YtpefjkndfifceaaGreatDoorPkb13
import Derived.Laws.CopyOwn
import Derived.Deep.RegionHeld
import Derived.Deep.CutRange
import Derived.Laws.EntriesVeiled
open Go.Lib renaming hid → zH
open List renaming setIfInBounds_toArray → zq1, set_cons_zero → zq2, set_cons_succ → zq3, getElem_toArray → zq4, getElem_cons_succ → zq5, getElem_cons_zero → zq6
set_option linter.unusedVariables false
set_option linter.unusedSimpArgs false
namespace Go.Proofs.YtpefjkndfifceaaGreatDoor
open Go.RowKit
theorem limb_round {l x D : Int} (h : D ∣ l * x - 1) (hV : D * D ∣ 4294967296) : D * D ∣ l * (x * ((2 - l * x) % 4294967296) % 4294967296) - 1 := by
 have e1 : (2 - l * x) % 4294967296 = 2 - l * x + 4294967296 * (-((2 - l * x) / 4294967296)) := by omega
 rw [e1]
 have e2 : x * (2 - l * x + 4294967296 * (-((2 - l * x) / 4294967296))) % 4294967296 = x * (2 - l * x + 4294967296 * (-((2 - l * x) / 4294967296))) + 4294967296 * (-(x * (2 - l * x + 4294967296 * (-((2 - l * x) / 4294967296))) / 4294967296)) := by omega
 rw [e2]
 exact limb_step h hV
theorem limb_end {l : Nat} {x : Int} (h : (4294967296 : Int) ∣ (l : Int) * x - 1) : ∃ m : Nat, -x % 4294967296 = (m : Int) ∧ m < 4294967296 ∧ (m * l + 1) % 4294967296 = 0 := by
 have e0 : -x % 4294967296 = -x + 4294967296 * (-(-x / 4294967296)) := by omega
 have h1 : 0 ≤ -x % 4294967296 := by omega
 have h2 : -x % 4294967296 < 4294967296 := by omega
 rw [e0] at h1 h2 ⊢
 generalize -(-x / 4294967296) = c at *
 refine ⟨(-x + 4294967296 * c).toNat, by omega, by omega, ?_⟩
 obtain ⟨d, hd⟩ := h
 have e : (((-x + 4294967296 * c).toNat * l + 1 : Nat) : Int) = 4294967296 * (c * l - d) := by
  rw [Int.natCast_add, Int.natCast_mul, Int.toNat_of_nonneg h1, Int.add_mul, Int.mul_sub, Int.neg_mul]
  have k1 : 4294967296 * c * (l : Int) = 4294967296 * (c * l) := Int.mul_assoc _ _ _
  have k2 : x * (l : Int) = l * x := Int.mul_comm _ _
  rw [k1, k2]
  simp
  omega
 omega
set_option maxHeartbeats 1000000 in
theorem minusInverse_any (l : Nat) (w : World) (hl : l < 4294967296) (ho : l % 2 = 1) :
  Calls Tryz.prog 176 #[.int .u32 (l : Int)] w fun e w' => (∃ m : Nat, e = .returned (.int .u32 (m : Int)) ∧ m < 4294967296 ∧ (m * l + 1) % 4294967296 = 0) ∧ w = w' := by
 go_enter Tryz.func176, Tryz.ntmps176
 go_wp2
 go_loop [3, 4] (fun xv rv => ∃ (x : Int) (r : Nat), xv = .int .u32 x ∧ rv = .int .i64 (r : Int) ∧ (r = 1 ∨ r = 2 ∨ r = 4 ∨ r = 8 ∨ r = 16 ∨ r = 32) ∧ Hid (0 ≤ x ∧ x < 4294967296 ∧ (2 : Int) ^ r ∣ (l : Int) * x - 1)) (fun _ rv => 32 - (intOf rv).toNat)
 case atStart => exact ⟨1, 1, rfl, rfl, .inl rfl, by decide, by decide, by rw [Int.mul_one]; omega⟩
 case round =>
  obtain ⟨x, r, rfl, rfl, hr, hinv⟩ := hrel
  by_cases h32 : r = 32
  ·subst h32
   have hd := zH (limb_end (l := l) (x := x) hinv.out.2.2)
   go_wp2
   go_ret
   obtain ⟨m, h1, h2, h3⟩ := hd.out
   exact ⟨⟨m, by rw [← h1]; rfl, h2, h3⟩, rfl⟩
  ·have hst : Hid ((2 : Int) ^ (r * 2) ∣ (l : Int) * (x * ((2 - (l : Int) * x) % 4294967296) % 4294967296) - 1) := zH (by
    have h := limb_round (l := (l : Int)) (x := x) (D := 2 ^ r) hinv.out.2.2 (by rcases hr with rfl | rfl | rfl | rfl | rfl | rfl <;> first | omega | decide)
    rwa [← Int.pow_add, show r + r = r * 2 by omega] at h)
   have hr1 : 1 ≤ r := by omega
   have hlt : r < 32 := by omega
   have hr2 := zH (show r * 2 = 1 ∨ r * 2 = 2 ∨ r * 2 = 4 ∨ r * 2 = 8 ∨ r * 2 = 16 ∨ r * 2 = 32 by omega)
   clear hr h32
   go_wp2
   go_round
   case rel => exact ⟨_, r * 2, rfl, by go_num, hr2.out, by omega, by omega, hst.out⟩
   case measure => simp [intOf] <;> omega
theorem narrow_any (a : Option Addr) (n c : Nat) (l : List Nat) (w : World) (h : Reads .u32 w a n c l) (hL : Lim l) (ht : val32 l < topN) :
  Calls Tryz.prog 201 #[.slice a n c] w fun e w' => RetsQ .u32 71 w.heap.size w' (nat32 (val32 l)) e ∧ Below w.heap.size w w' := by
 have HT := zH (trim_ok (⟨a, n, c, l, rfl, h, hL, rfl⟩ : NatAt w (.slice a n c) (val32 l)) ht)
 clear h hL ht
 go_enter Tryz.func201, Tryz.ntmps201
 go_wp2_with fail
 refine HT.out.mono ?_
 rintro e w1 ⟨⟨v1, rfl, ho1⟩, hb1⟩
 have O1 := zH ho1
 have B1 := zH hb1
 clear ho1 hb1
 go_wp2
 go_ret
 exact ⟨⟨_, rfl, O1.out⟩, B1.out⟩
theorem run_copy_q {P : Program} (q : IntKind) (E : TypeId) (B : Nat) (w : World) (dT sT ty elem : TypeId) (hu : P.underlying dT = some (.slice elem)) (hsz : (P.info? elem).map (·.size) = some 1)
  (g n : Nat) (sp : Option Addr) (sLen sCap : Nat) (L l : List Nat) (hO : OwnQ q E B w (.slice (some ⟨g, 0, none⟩) n n) L) (hr : Reads q w sp sLen sCap l) (hle : sLen ≤ n) :
  ∃ w', (Builtin.copy_ #[dT, sT] ty #[.slice (some ⟨g, 0, none⟩) n n, .slice sp sLen sCap]).run P w = .ok (goInt sLen) w' ∧ OwnQ q E B w' (.slice (some ⟨g, 0, none⟩) n n) (l ++ L.drop sLen) ∧ ∀ w0, Below B w0 w → Below B w0 w' := by
 have hl := hr.length
 rcases Nat.eq_zero_or_pos sLen with rfl | hp
 ·obtain rfl : l = [] := List.eq_nil_of_length_eq_zero hl
  exact ⟨w, run_copy_none (P := P) w dT sT ty elem _ sp n n 0 sCap hu hsz (by simp), by simpa using hO, fun _ h => h⟩
 ·have hn := hO.cap.1
  have hmax := hO.cap.2.2
  obtain ⟨-, h2⟩ := hO
  rcases h2 with ⟨h2, -⟩ | ⟨g', cap, cur, he, hBg, hg, hnc, hcm, hcs, hct⟩
  ·cases h2
  ·obtain ⟨rfl, e2, e3⟩ : g' = g ∧ L.length = n ∧ cap = n := by
    injection he with e1 e2 e3
    injection e1 with e1
    injection e1 with e1
    exact ⟨e1.symm, by omega, by omega⟩
   subst e3
   have hcur : cur.toList = L.map (num q) := by
    rw [← hct, List.take_of_length_le (by simp; omega)]
   obtain ⟨ad, rfl⟩ : ∃ ad, sp = some ad := by
    cases sp with
    | none =>
     have h0 := hr.nil rfl
     have h1 := hr.le
     omega
    | some ad => exact ⟨ad, rfl⟩
   have hrun := run_copy_row (P := P) w dT sT ty elem g' 0 cap cap ad sLen sCap cur E (l.map (num q)) hu hsz hg (by rw [List.length_map, hl]; exact (Nat.min_eq_left hle).symm) hr.news (by simp; omega) (nums_oneCell q l)
   rw [List.length_map, hl] at hrun
   refine ⟨_, hrun, ?_, fun w0 hb => below_setRow hb hBg _⟩
   have hlen : (l ++ L.drop sLen).length = cap := by simp; omega
   show World.ownsRow _ _ _ _ _ _ _
   rw [hlen]
   refine ⟨by rw [List.length_map, hlen, Nat.mul_one], .inr ⟨g', cap, _, rfl, hBg, setRow_heap w g' _ _ E _ hg, Nat.le_refl _, hmax, ?_, ?_⟩⟩
   ·simp; omega
   ·simp only [List.take_zero, List.nil_append, Nat.zero_add]
    rw [List.take_of_length_le (by simp; omega), hcur, List.map_append, List.map_drop]
set_option maxRecDepth 100000 in
set_option maxHeartbeats 1000000 in
theorem wide_any (a : Option Addr) (m c : Nat) (l : List Nat) (n : Nat) (w : World) (h : Reads .u32 w a m c l) (hn : m ≤ n) (hb : n ≤ 100000) :
  Calls Tryz.prog 177 #[.slice a m c, .int .i64 (n : Int)] w fun e w' => RetsQ .u32 71 w.heap.size w' (l ++ List.replicate (n - m) 0) e ∧ Below w.heap.size w w' := by
 obtain ⟨i0, hi, hz0, hz1, hz2⟩ := info_parts Tryz.info32
 have HR := zH h
 have HN := zH h.length
 clear h
 go_enter Tryz.func177, Tryz.ntmps177
 go_wp2_with (at_make; refine wpList_make_lc .u32 _ rfl _ _ 43 rfl w.heap.size 71 i0 Tryz.underlying43 hi hz0 hz1 _ _ _ _ n n rfl rfl (by omega) (by omega) (Nat.le_refl _) (by rw [hz2]; omega) (by unfold maxLen; omega) (by simp) ?_; intro w1 hown hgrow)
 have HO := zH hown
 have HB := zH ((Below.refl w.heap.size w).grown hgrow (Nat.le_refl _) (fun _ h => by cases h))
 have HR2 := zH (HR.out.below HB.out)
 clear hown hgrow
 obtain ⟨w2, hrun, hO2, hB2⟩ := run_copy_q (P := Tryz.prog) .u32 71 w.heap.size w1 43 44 3 71 Tryz.underlying43 (by kernel_rfl) _ _ _ _ _ _ _ HO.out HR2.out hn
 have HO2 := zH hO2
 have HB2 := zH (hB2 _ HB.out)
 clear hO2 hB2
 rw [hrun]
 go_wp2
 go_ret
 refine ⟨⟨_, rfl, ?_⟩, HB2.out⟩
 have := HO2.out
 rwa [List.drop_replicate] at this
end Go.Proofs.YtpefjkndfifceaaGreatDoor
namespace Go.Proofs.YtpefjkndfifceaaGreatDoor
open Go.RowKit
structure WhlC (w : World) (g : Nat) (a : Option Addr) (c k : Nat) (a1 : Option Addr) (c1 : Nat) (a2 : Option Addr) (c2 n M : Nat) : Prop where
 lt : g < w.heap.size
 m : w.cell? ⟨g, 0, none⟩ = some (.slice a n c)
 minus : w.cell? ⟨g, 1, none⟩ = some (.int .u32 (k : Int))
 one : w.cell? ⟨g, 2, none⟩ = some (.slice a1 n c1)
 square : w.cell? ⟨g, 3, none⟩ = some (.slice a2 n c2)
 rm : Reads .u32 w a n c (nat32 M)
 r1 : Reads .u32 w a1 n c1 (wideN n (radix n % M))
 r2 : Reads .u32 w a2 n c2 (wideN n (radix n * radix n % M))
 kl : k < 4294967296
 inv : (k * M + 1) % 4294967296 = 0
 odd : M % 2 = 1
 three : 3 ≤ M
 small : M < topM
def Whl (w : World) (p : Value) (n M : Nat) : Prop := ∃ g a c k a1 c1 a2 c2, p = .pointer (some ⟨g, 0, none⟩) ∧ WhlC w g a c k a1 c1 a2 c2 n M
theorem WhlC.below {w w' : World} {g c k c1 c2 n M : Nat} {a a1 a2 : Option Addr} (h : WhlC w g a c k a1 c1 a2 c2 n M) (hb : Below w.heap.size w w') : WhlC w' g a c k a1 c1 a2 c2 n M :=
 ⟨Nat.lt_of_lt_of_le h.lt hb.size, (hb.cell (p := ⟨g, 0, none⟩) h.lt).trans h.m, (hb.cell (p := ⟨g, 1, none⟩) h.lt).trans h.minus, (hb.cell (p := ⟨g, 2, none⟩) h.lt).trans h.one, (hb.cell (p := ⟨g, 3, none⟩) h.lt).trans h.square, h.rm.below hb, h.r1.below hb, h.r2.below hb, h.kl, h.inv, h.odd, h.three, h.small⟩
theorem Whl.below {w w' : World} {p : Value} {n M : Nat} (h : Whl w p n M) (hb : Below w.heap.size w w') : Whl w' p n M := by
 obtain ⟨g, a, c, k, a1, c1, a2, c2, rfl, h⟩ := h
 exact ⟨g, a, c, k, a1, c1, a2, c2, rfl, h.below hb⟩
theorem WhlC.len {w : World} {g c k c1 c2 n M : Nat} {a a1 a2 : Option Addr} (h : WhlC w g a c k a1 c1 a2 c2 n M) : (nat32 M).length = n ∧ 1 ≤ n ∧ n ≤ 128 := by
 have h1 := h.rm.length
 have h2 : (nat32 M).length ≤ 128 := (natB_length (b := 4294967296) (by decide) M 128).2 h.small
 refine ⟨h1, ?_, by omega⟩
 apply Nat.pos_of_ne_zero
 intro e
 have := (natB_nil (b := 4294967296) (by decide)).1 (List.eq_nil_of_length_eq_zero (h1.trans e))
 have := h.three
 omega
theorem WhlC.radix {w : World} {g c k c1 c2 n M : Nat} {a a1 a2 : Option Addr} (h : WhlC w g a c k a1 c1 a2 c2 n M) : M < radix n := by
 have h1 := h.len
 exact (natB_length (b := 4294967296) (by decide) M n).1 (Nat.le_of_eq h1.1)
structure RedI (t m P : List Nat) (k b : Nat) : Prop where
 len : P.length = m.length
 lim : Lim P
 bor : b ≤ 1
 val : val32 (P.take k) + val32 (m.take k) = val32 (t.take k) + 4294967296 ^ k * b
theorem redI_start (t m : List Nat) : RedI t m (List.replicate m.length 0) 0 0 := ⟨by simp, fun x hx => by rw [List.eq_of_mem_replicate hx]; decide, by omega, by simp [val32, valB]⟩
theorem redI_step {t m P : List Nat} {k b : Nat} (h : RedI t m P k b) (ht : Lim t) (hm : Lim m) (hk : k < m.length) : RedI t m (P.set k (subD (t[k]?.getD 0) (m[k]?.getD 0) b)) (k + 1) (subB (t[k]?.getD 0) (m[k]?.getD 0) b) := by
 obtain ⟨h1, h2, h3, h4⟩ := h
 have hx := lim_get ht k
 have hy := lim_get hm k
 have e1 := valB_succ (b := 4294967296) t k
 have e2 := valB_succ (b := 4294967296) m k
 generalize t[k]?.getD 0 = x at *
 generalize m[k]?.getD 0 = y at *
 have hd : subD x y b + y + b = x + 4294967296 * subB x y b := by unfold subD subB; split <;> omega
 have hd2 : subD x y b < 4294967296 := by unfold subD; split <;> omega
 have hb2 : subB x y b ≤ 1 := by unfold subB; split <;> omega
 generalize subD x y b = d at *
 generalize subB x y b = b2 at *
 refine ⟨by simp [h1], mem_set h2 hd2, hb2, ?_⟩
 simp only [val32] at *
 rw [take_set_succ _ _ _ (by omega), valB_snoc, List.length_take, Nat.min_eq_left (by omega), e1, e2]
 have e : 4294967296 ^ (k + 1) * b2 = 4294967296 ^ k * (4294967296 * b2) := by rw [Nat.pow_succ, Nat.mul_assoc]
 have e3 : 4294967296 ^ k * (d + y + b) = 4294967296 ^ k * (x + 4294967296 * b2) := by rw [hd]
 rw [Nat.mul_add, Nat.mul_add, Nat.mul_add] at e3
 rw [e]
 omega
set_option maxRecDepth 100000 in
set_option maxHeartbeats 2000000 in
theorem reduced_any (p : Value) (n M N gt : Nat) (T : List Nat) (B : Nat) (w : World) (hW : Whl w p n M) (hT : OwnQ .u32 71 B w (.slice (some ⟨gt, 0, none⟩) N N) T) (hL : Lim T) (hv : val32 T < 2 * M) (hB : B ≤ w.heap.size) (hN : N = n + 1) :
  Calls Tryz.prog 200 #[p, .slice (some ⟨gt, 0, none⟩) N N] w fun e w' => RetsQ .u32 71 B w' (wideN n (val32 T % M)) e ∧ Below w.heap.size w w' := by
 obtain ⟨i0, hi, hz0, hz1, hz2⟩ := info_parts Tryz.info32
 obtain ⟨g, a, c, k, a1, c1, a2, c2, rfl, hW⟩ := hW
 obtain ⟨hln, hn1, hn2⟩ := hW.len
 have HW := zH hW
 have HT := zH hT
 have HL := zH hL
 have HV := zH hv
 have HLN := zH hln
 have HTN := zH hT.cap.1
 have hcm := hT.cap.2.2
 unfold maxLen at hcm
 have hm0 := hW.m
 have hLM : Hid (Lim (nat32 M)) := zH (natB_digit (by decide) M)
 have hVM : Hid (val32 (nat32 M) = M) := zH (natB_val (b := 4294967296) (by decide) M)
 have hfin := zH (fun (P : List Nat) (b : Nat) (h : RedI T (nat32 M) P n b) => mon_less (k := n) hln (hT.cap.1.symm.trans hN) hL hLM.out h.lim (by rw [h.len, hln]) (by rw [show val32 (nat32 M) = M from hVM.out]; exact hv) h.bor (by
  have := h.val
  rwa [List.take_of_length_le (by rw [h.len, hln]; exact Nat.le_refl _), List.take_of_length_le (by rw [hln]; exact Nat.le_refl _)] at this))
 have hcn : ¬ N = 0 := by omega
 have hnN : n < N := by omega
 have hN1 : N ≤ 129 := by omega
 clear hW hT hL hv hln hN
 go_enter Tryz.func200, Tryz.ntmps200
 go_wp2_with (at_make; refine wpList_make_lc .u32 _ rfl _ _ 43 rfl w.heap.size 71 i0 Tryz.underlying43 hi hz0 hz1 _ _ _ _ n n rfl rfl (by omega) (by omega) (Nat.le_refl _) (by rw [hz2]; omega) (by unfold maxLen; omega) (by simp) ?_; intro w1 hown hgrow)
 have HO := zH hown
 have HB := zH ((Below.refl w.heap.size w).grown hgrow (Nat.le_refl _) (fun _ h => by cases h))
 clear hown hgrow hm0
 go_wp2
 go_loopw [7, 17] (fun bv iv wr => ∃ (i b : Nat) (P : List Nat), iv = .int .i64 (i : Int) ∧ bv = .int .u32 (b : Int) ∧ i ≤ n ∧ Hid (RedI T (nat32 M) P i b) ∧ OwnQ .u32 71 w.heap.size wr (.slice (some ⟨w.heap.size, 0, none⟩) n n) P ∧ Hid (Below w.heap.size w wr)) (fun _ iv _ => n - (intOf iv).toNat)
 case atStart => exact ⟨0, 0, _, rfl, rfl, Nat.zero_le _, by have := redI_start T (nat32 M); rwa [HLN.out] at this, HO.out, HB.out⟩
 case round =>
  obtain ⟨i, b, P, rfl, rfl, hi2, hinv, hown, hbel⟩ := hrel
  have HWr := zH (HW.out.below hbel.out)
  have HTr := zH (HT.out.below (hbel.out))
  have hPl := zH (hinv.out.len.trans HLN.out)
  have c0 := HWr.out.m
  have hiN : i < N := by omega
  by_cases hlt : i < n
  ·obtain ⟨bb, off, rfl, hbk0, -⟩ := HW.out.rm.cells (by omega)
   have HBB := zH hbk0
   obtain ⟨bb2, off2, he2, hbk, hc2⟩ := HWr.out.rm.cells (by omega)
   cases he2
   have hck := hc2 i hlt
   have ht := HTr.out.cellAt HTN.out i (by omega)
   have hst := zH (redI_step hinv.out HL.out hLM.out (by rw [HLN.out]; exact hlt))
   have hx := lim_get HL.out i
   have hy := lim_get hLM.out i
   have hfr := hown.frozenAt hPl.out.symm i
   have hcell := hown.cellAt hPl.out.symm i hlt
   have hb1 := hinv.out.bor
   have HO1 := zH hown
   clear hc2 hown hinv
   generalize T[i]?.getD 0 = x at *
   generalize (nat32 M)[i]?.getD 0 = y at *
   have hSB := zH (fun W0 => sub32_any x y b W0 hx hy hb1)
   have hf1 : Hid (gt ≠ w.heap.size) := zH (by have := (World.ownsRow.lt HT.out gt rfl).2; omega)
   have hf2 : Hid (g ≠ w.heap.size) := zH (by have := HW.out.lt; omega)
   have hf3 : Hid (bb ≠ w.heap.size) := zH (by have := HBB.out; omega)
   go_wp2
   go_region_with (go_at_call 111; refine (hSB.out _).mono ?_; rintro e w' ⟨rfl, rfl⟩)
   all_goals
    go_wp2
    go_roundw
    case rel =>
     have s1 := HO1.out.stored hPl.out.symm i (subD x y b) _ rfl
     exact ⟨i + 1, subB x y b, P.set i (subD x y b), by go_num, rfl, by omega, hst.out, s1.1, (s1.2 _ hbel.out).drew⟩
    case measure => simp [intOf] <;> omega
  ·obtain rfl : i = n := by omega
   have ht := HTr.out.cellAt HTN.out i (by omega)
   have hfi := zH (hfin.out P b hinv.out)
   have hbo := hinv.out.bor
   have hPL := zH hinv.out.lim
   have hx := lim_get HL.out i
   generalize T[i]?.getD 0 = x at *
   by_cases hb : x < b
   ·have hd : decide ((x : Int) < (b : Int)) = true := by simp; omega
    have hres := zH (show T.take i = wideN i (val32 T % M) by
     have h1 := hfi.out.1 hb
     rw [show val32 (nat32 M) = M from hVM.out] at h1
     rw [← h1]
     exact wideN_uniq (fun z hz => HL.out z (List.mem_of_mem_take hz)) (by rw [List.length_take]; have := HTN.out; omega))
    have hup := zH (HTr.out.upto i (Nat.le_of_lt hnN))
    clear hfi
    go_wp2
    go_ret
    exact ⟨⟨_, rfl, by rw [← hres.out]; exact hup.out⟩, hbel.out⟩
   ·have hd : decide ((x : Int) < (b : Int)) = false := by simp; omega
    have hres := zH (show P = wideN i (val32 T % M) by
     have h1 := hfi.out.2 hb
     rw [show val32 (nat32 M) = M from hVM.out] at h1
     rw [← h1]
     exact wideN_uniq hPL.out hPl.out)
    have HO1 := zH hown
    clear hfi hown
    go_wp2
    go_ret
    exact ⟨⟨_, rfl, by rw [← hres.out]; exact HO1.out.mono hB⟩, hbel.out⟩
end Go.Proofs.YtpefjkndfifceaaGreatDoor
namespace Go.Proofs.YtpefjkndfifceaaGreatDoor
open Go.RowKit
theorem reads_spot {q : IntKind} {w : World} {b off len cap : Nat} {l : List Nat} (h : Reads q w (some ⟨b, off, none⟩) len cap l) (i : Nat) (hi : i < len) : w.cell? ⟨b, off + i, none⟩ = some (.int q ((l[i]?.getD 0 : Nat) : Int)) := by
 obtain ⟨b', off', e, -, hc⟩ := h.cells (by omega)
 cases e
 exact hc i hi
theorem reads_spot0 {q : IntKind} {w : World} {b off len cap : Nat} {l : List Nat} (h : Reads q w (some ⟨b, off, none⟩) len cap l) (hi : 0 < len) : w.cell? ⟨b, off, none⟩ = some (.int q ((l[0]?.getD 0 : Nat) : Int)) := reads_spot h 0 hi
theorem reads_some {q : IntKind} {w : World} {a : Option Addr} {len cap : Nat} {l : List Nat} (h : Reads q w a len cap l) (hi : 0 < len) : ∃ b off, a = some ⟨b, off, none⟩ := by
 obtain ⟨b', off', e, -, -⟩ := h.cells hi
 exact ⟨b', off', e⟩
structure Sum3 (x y t f p1 p2 F fd : Nat) : Prop where
 e1 : (x : Int) * (y : Int) = (p1 : Int)
 b1 : p1 < 18446744073709551616
 e2 : (p1 : Int) + (t : Int) = (p2 : Int)
 b2 : p2 < 18446744073709551616
 e3 : (F : Int) / 4294967296 = (fd : Int)
 b3 : fd < 4294967296
 e4 : (p2 : Int) + (fd : Int) = (f : Int)
 b4 : f < 18446744073709551616
theorem sum3 {x y t F : Nat} (hx : x < 4294967296) (hy : y < 4294967296) (ht : t < 4294967296) (hF : F < 18446744073709551616) : ∃ f p1 p2 fd, Sum3 x y t f p1 p2 F fd ∧ f = x * y + t + F / 4294967296 := by
 have h : x * y ≤ 4294967295 * 4294967295 := Nat.mul_le_mul (by omega) (by omega)
 exact ⟨x * y + t + F / 4294967296, x * y, x * y + t, F / 4294967296, ⟨by simp, by omega, by omega, by omega, by omega, by omega, by omega, by omega⟩, rfl⟩
structure Sum2 (x y t f p1 : Nat) : Prop where
 e1 : (x : Int) * (y : Int) = (p1 : Int)
 b1 : p1 < 18446744073709551616
 e2 : (p1 : Int) + (t : Int) = (f : Int)
 b2 : f < 18446744073709551616
theorem sum2 {x y t : Nat} (hx : x < 4294967296) (hy : y < 4294967296) (ht : t < 4294967296) : ∃ f p1, Sum2 x y t f p1 ∧ f = x * y + t := by
 have h : x * y ≤ 4294967295 * 4294967295 := Nat.mul_le_mul (by omega) (by omega)
 exact ⟨x * y + t, x * y, ⟨by simp, by omega, by omega, by omega⟩, rfl⟩
theorem low32 (f : Nat) : ∃ m : Nat, (f : Int) % 4294967296 = (m : Int) ∧ m < 4294967296 ∧ m = f % 4294967296 := ⟨f % 4294967296, by omega, by omega, rfl⟩
theorem prod32 (f k : Nat) : ∃ q : Nat, (f : Int) * (k : Int) % 4294967296 = (q : Int) ∧ q < 4294967296 ∧ q = f * k % 4294967296 := ⟨f * k % 4294967296, by rw [← Int.natCast_mul]; omega, by omega, rfl⟩
theorem quot_zero {f k M m0 q : Nat} (hk : (k * M + 1) % 4294967296 = 0) (hm : m0 = M % 4294967296) (hq : q = f % 4294967296 * k % 4294967296) : (q * m0 + f % 4294967296) % 4294967296 = 0 := by
 subst hq hm
 have e1 : (f % 4294967296 * k % 4294967296 * (M % 4294967296) + f % 4294967296) % 4294967296 = (f % 4294967296 * (k * M + 1)) % 4294967296 := by
  rw [Nat.mul_add, Nat.mul_one, ← Nat.mul_assoc]
  rw [Nat.add_mod, Nat.mod_mul_mod, Nat.mul_mod_mod, ← Nat.add_mod]
 rw [e1, Nat.mul_mod, hk, Nat.mul_zero, Nat.zero_mod]
set_option maxRecDepth 100000 in
set_option maxHeartbeats 4000000 in
theorem times_any (p : Value) (xa ya : Option Addr) (xc yc n M : Nat) (X Y : List Nat) (w : World) (hW : Whl w p n M) (hx : Reads .u32 w xa n xc X) (hy : Reads .u32 w ya n yc Y) (hLX : Lim X) (hLY : Lim Y) (hXM : val32 X < M) :
  Calls Tryz.prog 182 #[p, .slice xa n xc, .slice ya n yc] w fun e w' => RetsQ .u32 71 w.heap.size w' (wideN n (monN n M (val32 X * val32 Y))) e ∧ Below w.heap.size w w' := by
 obtain ⟨i0, hi, hz0, hz1, hz2⟩ := info_parts Tryz.info32
 have HWH := zH hW
 obtain ⟨g, a, c, kk, a1, c1, a2, c2, rfl, hW⟩ := hW
 obtain ⟨hln, hn1, hn2⟩ := hW.len
 obtain ⟨bx, ox, rfl⟩ := reads_some hx hn1
 obtain ⟨yb, yo, rfl⟩ := reads_some hy hn1
 obtain ⟨mb, mo, rfl⟩ := reads_some hW.rm hn1
 obtain ⟨m, hmm⟩ : ∃ m, m = nat32 M := ⟨_, rfl⟩
 obtain ⟨N, hN⟩ : ∃ N, N = n + 1 := ⟨_, rfl⟩
 obtain ⟨k, hk⟩ : ∃ k, n = k + 1 := ⟨n - 1, by omega⟩
 have hrm := hW.rm
 rw [← hmm] at hrm
 have HRM := zH hrm
 have HX := zH hx
 have HY := zH hy
 have HLX := zH hLX
 have HLY := zH hLY
 have HML : Hid (Lim m) := zH (by rw [hmm]; exact natB_digit (by decide) M)
 have HMN := zH (show m.length = n by rw [hmm]; exact hln)
 have HVM := zH (show val32 m = M by rw [hmm]; exact natB_val (by decide) M)
 have HM0 := zH (show m[0]?.getD 0 = M % 4294967296 by rw [hmm, natB_get (by decide)]; simp)
 have HXN := zH hx.length
 have HYN := zH hy.length
 have HXM := zH (show val32 X < val32 m by rw [HVM.out]; exact hXM)
 have HC := zH (fun (wr : World) (hb : Below w.heap.size w wr) => (⟨(hW.below hb).m, (hW.below hb).minus⟩ : wr.cell? ⟨g, 0, none⟩ = _ ∧ wr.cell? ⟨g, 1, none⟩ = _))
 have HINV := zH hW.inv
 have hkl := hW.kl
 have HOD := zH hW.odd
 have H3 := zH hW.three
 have HK := zH hk
 have HN := zH hN
 have hnk : ((n : Int) - 1) = (k : Int) := by omega
 have hkn : k < n := by omega
 have hnN : n < N := by omega
 have hkN : k < N := by omega
 have hN9 : N ≤ 129 := by omega
 have hnN1 : ((n : Int) + 1) = (N : Int) := by omega
 have hc0 := (HC.out w (Below.refl _ _)).1
 have hz : Hid (MonOut X m Y (List.replicate N 0) 0) := zH (by
  have := monOut_start (x := X) (m := m) (y := Y) (by have := HXM.out; omega)
  rwa [HMN.out, ← hN] at this)
 clear hW hx hy hLX hLY hXM hmm hN hk hrm hln
 go_enter Tryz.func182, Tryz.ntmps182
 go_wp2_with (at_make; refine wpList_make_lc .u32 _ rfl _ _ 43 rfl w.heap.size 71 i0 Tryz.underlying43 hi hz0 hz1 _ _ _ _ N N rfl rfl (by omega) (by omega) (Nat.le_refl _) (by rw [hz2]; omega) (by unfold maxLen; omega) (by simp) ?_; intro w1 hown hgrow)
 have HO := zH hown
 have HB := zH ((Below.refl w.heap.size w).grown hgrow (Nat.le_refl _) (fun _ h => by cases h))
 clear hown hgrow hc0
 go_wp2
 go_loopw [24] (fun iv wr => ∃ (i : Nat) (T : List Nat), iv = .int .i64 (i : Int) ∧ i ≤ n ∧ Hid (MonOut X m Y T i) ∧ OwnQ .u32 71 w.heap.size wr (.slice (some ⟨w.heap.size, 0, none⟩) N N) T ∧ Hid (Below w.heap.size w wr)) (fun iv _ => n - (intOf iv).toNat)
 case atStart => exact ⟨0, _, rfl, Nat.zero_le _, hz.out, HO.out, HB.out⟩
 case round =>
  obtain ⟨i, T, rfl, hi2, hinv, hown, hbel⟩ := hrel
  obtain ⟨wo, rfl⟩ : ∃ wo : World, wo = wr := ⟨_, rfl⟩
  have HTN : Hid (T.length = N) := zH (by rw [hinv.out.len, HMN.out]; exact HN.out.symm)
  by_cases hlt : i < n
  ·have cx := reads_spot0 (HX.out.below hbel.out) (by omega)
   have cy := reads_spot (HY.out.below hbel.out) i hlt
   have cm := reads_spot0 (HRM.out.below hbel.out) (by omega)
   have ct := hown.cellAt HTN.out.symm 0 (by omega)
   obtain ⟨cg0, cg1⟩ := HC.out wo hbel.out
   have lx := lim_get HLX.out 0
   have ly := lim_get HLY.out i
   have lm := lim_get HML.out 0
   have lt := lim_get hinv.out.lim 0
   obtain ⟨y, hy⟩ : ∃ y, y = Y[i]?.getD 0 := ⟨_, rfl⟩
   have HYI := zH hy
   rw [← hy] at cy ly
   obtain ⟨f, p1, S1, hf⟩ := sum2 lx ly lt
   obtain ⟨fm, efm, lfm, hfm⟩ := low32 f
   obtain ⟨q, eq1, lq, hq⟩ := prod32 fm kk
   obtain ⟨s, p3, S2, hs⟩ := sum2 lq lm lfm
   have hst : Hid (MonIn X m T T y q 0 (f / 4294967296) (s / 4294967296)) := zH (by
    have h := monIn_start (x := X) (m := m) (t := T) (y := y) (q := q) HLX.out HML.out hinv.out.lim ly lq (by
     have := quot_zero (f := f) (k := kk) (q := q) HINV.out HM0.out (by rw [hq, hfm])
     rwa [hf] at this)
    rw [← hf, ← hfm, ← hs] at h
    exact h)
   have HLQ := zH lq
   have HO1 := zH hown
   obtain ⟨e1, b1, e2, b2⟩ := S1
   obtain ⟨e3, b3, e4, b4⟩ := S2
   clear hy hf hfm hq hs hown
   generalize X[0]?.getD 0 = x0 at *
   generalize T[0]?.getD 0 = t0 at *
   generalize m[0]?.getD 0 = m0 at *
   go_wp2
   go_big_quiet (fail)
   simp only [Exit.then]
   go_wp2
   go_loopw [10, 11, 65] (fun fv sv jv wr => ∃ (j f s : Nat) (T' : List Nat), jv = .int .i64 (j : Int) ∧ fv = .int .u64 (f : Int) ∧ sv = .int .u64 (s : Int) ∧ j ≤ k ∧ f < 18446744073709551616 ∧ s < 18446744073709551616 ∧ Hid (MonIn X m T T' y q j (f / 4294967296) (s / 4294967296)) ∧ OwnQ .u32 71 w.heap.size wr (.slice (some ⟨w.heap.size, 0, none⟩) N N) T' ∧ Hid (Below w.heap.size w wr)) (fun _ _ jv _ => k - (intOf jv).toNat)
   case atStart => exact ⟨0, f, s, T, rfl, rfl, rfl, Nat.zero_le _, b2, b4, hst.out, HO1.out.drewN _, below_drewN hbel.out _⟩
   case round =>
    obtain ⟨j, f', s', T', rfl, rfl, rfl, hj, hf', hs', hin, hown2, hbel2⟩ := hrel
    obtain ⟨wi, rfl⟩ : ∃ wi : World, wi = wr := ⟨_, rfl⟩
    have HTN2 : Hid (T'.length = N) := zH (by rw [hin.out.len]; exact HTN.out)
    by_cases hjk : j < k
    ·obtain ⟨j1, hj1⟩ : ∃ j1, j1 = j + 1 := ⟨_, rfl⟩
     have hji : ((j : Int) + 1) = (j1 : Int) := by omega
     have hjn : j1 < n := by omega
     have hjN : j1 < N := by omega
     have hj0 : j < N := by omega
     have HJ := zH hj1
     have cx2 := reads_spot (HX.out.below hbel2.out) j1 hjn
     have cy2 := reads_spot (HY.out.below hbel2.out) i hlt
     have cm2 := reads_spot (HRM.out.below hbel2.out) j1 hjn
     have ct2 := hown2.cellAt HTN2.out.symm j1 hjN
     have ct3 := hown2.cellAt HTN2.out.symm j hj0
     have fr3 := hown2.frozenAt HTN2.out.symm j
     obtain ⟨cg2, -⟩ := HC.out wi hbel2.out
     have lx2 := lim_get HLX.out j1
     have lm2 := lim_get HML.out j1
     have lt2 := lim_get hin.out.lim j1
     rw [← HYI.out] at cy2
     have hstep := monIn_step hin.out HLX.out HML.out hinv.out.lim ly HLQ.out (by rw [HTN.out, ← hj1]; exact hjN)
     rw [← hj1] at hstep
     obtain ⟨f2, p4, p5, fd, U1, hf2⟩ := sum3 lx2 ly lt2 hf'
     obtain ⟨fm2, efm2, lfm2, hfm2⟩ := low32 f2
     obtain ⟨s2, p6, p7, sd, U2, hs2⟩ := sum3 HLQ.out lm2 lfm2 hs'
     obtain ⟨sm2, esm2, lsm2, hsm2⟩ := low32 s2
     have hst2 : Hid (MonIn X m T (T'.set j sm2) y q j1 (f2 / 4294967296) (s2 / 4294967296)) := zH (by
      have h := hstep.1
      rw [← hf2, ← hfm2, ← hs2, ← hsm2] at h
      exact h)
     have hO2 := zH hown2
     obtain ⟨u1, v1, u2, v2, u3, v3, u4, v4⟩ := U1
     obtain ⟨u5, v5, u6, v6, u7, v7, u8, v8⟩ := U2
     clear hf2 hfm2 hs2 hsm2 hstep hown2 hin hj1 cx cy cm ct cg0 cg1
     generalize X[j1]?.getD 0 = x1 at *
     generalize T'[j1]?.getD 0 = t1 at *
     generalize T'[j]?.getD 0 = t2 at *
     generalize m[j1]?.getD 0 = m1 at *
     go_wp2
     go_big_quiet (fail)
     simp only [Exit.then]
     go_wp2
     go_roundw
     case rel =>
      have s1 := (hO2.out.drewN nq).stored HTN2.out.symm j sm2 _ rfl
      exact ⟨j1, f2, s2, T'.set j sm2, rfl, rfl, rfl, by omega, v4, v8, hst2.out, s1.1, s1.2 _ (below_drewN hbel2.out _)⟩
     case measure =>
      have := HJ.out
      simp [intOf] <;> omega
    ·obtain rfl : j = k := by omega
     have lt2 := lim_get hin.out.lim n
     have ct2 := hown2.cellAt HTN2.out.symm n hnN
     have ct3 := hown2.cellAt HTN2.out.symm j hkN
     have fr3 := hown2.frozenAt HTN2.out.symm j
     have hmo := monOut_step hinv.out (HMN.out.trans HK.out) (HXN.out.trans HK.out) (y := Y) (by rw [← HYI.out]; exact hin.out) HLY.out HLQ.out HXM.out
     rw [← HK.out] at hmo
     dsimp only at hmo
     have hf9 : f' / 4294967296 < 4294967296 := by omega
     have hs9 : s' / 4294967296 < 4294967296 := by omega
     have u1 : (f' : Int) / 4294967296 = ((f' / 4294967296 : Nat) : Int) := by omega
     have u2 : (s' : Int) / 4294967296 = ((s' / 4294967296 : Nat) : Int) := by omega
     have hO2 := zH hown2
     clear hown2 hin cx cy cm ct cg0 cg1
     generalize T'[n]?.getD 0 = tn at *
     generalize T'[j]?.getD 0 = tj at *
     generalize f' / 4294967296 = fd at *
     generalize s' / 4294967296 = sd at *
     obtain ⟨b1', u3, v3⟩ : ∃ z : Nat, (tn : Int) + (fd : Int) = (z : Int) ∧ z = tn + fd := ⟨_, by omega, rfl⟩
     obtain ⟨top, u4, v4⟩ : ∃ z : Nat, (b1' : Int) + (sd : Int) = (z : Int) ∧ z = b1' + sd := ⟨_, by omega, rfl⟩
     obtain ⟨tl, u5, v5, v6⟩ := low32 top
     obtain ⟨th, u6, v7⟩ : ∃ z : Nat, (top : Int) / 4294967296 = (z : Int) ∧ z = top / 4294967296 := ⟨_, by omega, rfl⟩
     have w1' : b1' < 18446744073709551616 := by omega
     have w2' : top < 18446744073709551616 := by omega
     have w3' : th < 4294967296 := by omega
     have hmo2 : Hid (MonOut X m Y ((T'.set j tl).set n th) (i + 1)) := zH (by
      rw [show tn + fd + sd = top by omega, ← v6, ← v7] at hmo
      exact hmo)
     have s1 := hO2.out.stored HTN2.out.symm j tl _ rfl
     have hl3 : n < N := hnN
     have HT3 := zH (show (T'.set j tl).length = N by simp [HTN2.out])
     have c4 := s1.1.cellAt HT3.out.symm n hnN
     have fr4 := s1.1.frozenAt HT3.out.symm n
     have s2 := s1.1.stored HT3.out.symm n th _ rfl
     have SS1 := zH s2.1
     have SS2 := zH (s2.2 w (s1.2 _ hbel2.out))
     clear s1 s2 hmo v3 v4 v6 v7 hl3
     generalize (T'.set j tl)[n]?.getD 0 = t9 at c4
     go_wp2
     go_roundw
     case rel => exact ⟨i + 1, (T'.set j tl).set n th, by go_num, by omega, hmo2.out, SS1.out, SS2.out⟩
     case measure => simp [intOf] <;> omega
  ·obtain rfl : i = n := by omega
   have hbs := hbel.out.size
   have HR := zH (reduced_any _ i M N w.heap.size T w.heap.size wo (HWH.out.below hbel.out) hown hinv.out.lim (by rw [← HVM.out]; exact hinv.out.less) hbs HN.out)
   have hval := zH (mon_end hinv.out HYN.out HVM.out rfl rfl (by have := H3.out; omega) HOD.out)
   clear hown
   go_wp2_with fail
   refine HR.out.mono ?_
   rintro e w4 ⟨⟨v, rfl, ho⟩, hb⟩
   rw [hval.out] at ho
   have O4 := zH ho
   have B4 := zH (hbel.out.trans (hb.mono hbs))
   clear ho hb
   go_wp2
   go_ret
   exact ⟨⟨_, rfl, O4.out⟩, B4.out⟩
end Go.Proofs.YtpefjkndfifceaaGreatDoor
namespace Go.Proofs.YtpefjkndfifceaaGreatDoor
open Go.RowKit
theorem of_nat (n : Int) (k : Nat) (hk : n = k) (w : World) (hn : k < 18446744073709551616) : Calls Tryz.prog 29 #[.int .u64 n] w fun e w' => (∃ v, e = .returned v ∧ NatC w' v k) ∧ Below w.heap.size w w' :=
 (of_any n k hk w hn).mono fun e w' ⟨⟨v, he, ho⟩, hb⟩ => ⟨⟨v, he, NatC.of ho⟩, hb⟩
end Go.Proofs.YtpefjkndfifceaaGreatDoor
namespace Go.Proofs.YtpefjkndfifceaaGreatDoor
open Go.RowKit
def WideAt (w : World) (v : Value) (n X : Nat) : Prop := ∃ a c, v = .slice a n c ∧ Reads .u32 w a n c (wideN n X) ∧ X < radix n
theorem WideAt.below {w w' : World} {v : Value} {n X : Nat} (h : WideAt w v n X) (hb : Below w.heap.size w w') : WideAt w' v n X := by
 obtain ⟨a, c, hv, hr, hx⟩ := h
 exact ⟨a, c, hv, hr.below hb, hx⟩
theorem WideAt.of {E B : Nat} {w : World} {v : Value} {n X : Nat} (h : OwnQ .u32 E B w v (wideN n X)) (hX : X < radix n) : WideAt w v n X := by
 obtain ⟨a, m, c, rfl, hm, ho⟩ := h.slice
 obtain rfl : m = n := hm.trans (wideN_len hX)
 exact ⟨a, c, rfl, ho.reads, hX⟩
theorem WhlC.natM {w : World} {g c k c1 c2 n M : Nat} {a a1 a2 : Option Addr} (h : WhlC w g a c k a1 c1 a2 c2 n M) : NatAt w (.slice a n c) M := NatC.at ⟨_, _, _, rfl, h.rm⟩
theorem squareR {n M X : Nat} (hM : 2 ≤ M) (ho : M % 2 = 1) : monN n M (X % M * (radix n * radix n % M)) = X * radix n % M := by
 refine (monN_eq hM ho (Nat.mod_lt _ (by omega)) ?_).symm
 rw [Nat.mul_mod_mod, ← Nat.mul_mod]
 congr 1
 ac_rfl
theorem Whl.val {w : World} {p : Value} {n M : Nat} (h : Whl w p n M) : 1 ≤ n ∧ n ≤ 128 ∧ M < radix n ∧ M < topM ∧ 3 ≤ M ∧ M % 2 = 1 := by
 obtain ⟨g, a, c, k, a1, c1, a2, c2, rfl, h⟩ := h
 exact ⟨h.len.2.1, h.len.2.2, h.radix, h.small, h.three, h.odd⟩
set_option maxHeartbeats 400000 in
theorem made_any (p : Value) (n M : Nat) (w : World) (hW : Whl w p n M) :
  Calls Tryz.prog 178 #[p] w fun e w' => e = .returned (.bool true) ∧ w = w' := by
 obtain ⟨g, a, c, k, a1, c1, a2, c2, rfl, h⟩ := hW
 have h0 := h.m
 have h1 := h.len.2.1
 have h2 := h.len.2.2
 clear h
 go_enter Tryz.func178, Tryz.ntmps178
 go_wp2
 go_ret
 exact ⟨by simp <;> omega, rfl⟩
theorem wide_w {v : Value} {X n : Nat} {w : World} (hx : NatC w v X) (hX : X < radix n) (hn : n ≤ 100000) :
  Calls Tryz.prog 177 #[v, .int .i64 (n : Int)] w fun e w' => RetsQ .u32 71 w.heap.size w' (wideN n X) e ∧ Below w.heap.size w w' := by
 obtain ⟨a, len, c, rfl, hr⟩ := hx
 have hl : len ≤ n := by rw [← hr.length]; exact (natB_length (b := 4294967296) (by decide) X n).2 hX
 have e : nat32 X ++ List.replicate (n - len) 0 = wideN n X := by unfold wideN; rw [hr.length]
 rw [← e]
 exact wide_any a len c _ n w hr hl hn
theorem narrow_w {v : Value} {X n : Nat} {w : World} (hx : WideAt w v n X) (hX : X < topN) :
  Calls Tryz.prog 201 #[v] w fun e w' => RetsQ .u32 71 w.heap.size w' (nat32 X) e ∧ Below w.heap.size w w' := by
 obtain ⟨a, c, rfl, hr, hx⟩ := hx
 have := narrow_any a n c _ w hr (wideN_lim n X) (by rw [wideN_val]; exact hX)
 rw [wideN_val] at this
 exact this
theorem times_w {p x y : Value} {n M X Y : Nat} {w : World} (hW : Whl w p n M) (hx : WideAt w x n X) (hy : WideAt w y n Y) (hX : X < M) :
  Calls Tryz.prog 182 #[p, x, y] w fun e w' => RetsQ .u32 71 w.heap.size w' (wideN n (monN n M (X * Y))) e ∧ Below w.heap.size w w' := by
 obtain ⟨a, c, rfl, hr, hx⟩ := hx
 obtain ⟨a', c', rfl, hr', hy⟩ := hy
 have := times_any p a a' c c' n M _ _ w hW hr hr' (wideN_lim n X) (wideN_lim n Y) (by rw [wideN_val]; exact hX)
 rw [wideN_val, wideN_val] at this
 exact this
set_option maxHeartbeats 400000 in
theorem squared_w {p x : Value} {n M X : Nat} {w : World} (hW : Whl w p n M) (hx : WideAt w x n X) (hX : X < M) :
  Calls Tryz.prog 180 #[p, x] w fun e w' => RetsQ .u32 71 w.heap.size w' (wideN n (monN n M (X * X))) e ∧ Below w.heap.size w w' := by
 have HT := zH (times_w hW hx hx hX)
 clear hW hx hX
 go_enter Tryz.func180, Tryz.ntmps180
 go_wp2_with fail
 refine HT.out.mono ?_
 rintro e w1 ⟨⟨v, rfl, ho⟩, hb⟩
 have O := zH ho
 have B := zH hb
 clear ho hb
 go_wp2
 go_ret
 exact ⟨⟨_, rfl, O.out⟩, B.out⟩
set_option maxRecDepth 100000 in
set_option maxHeartbeats 2000000 in
theorem in_any (p x : Value) (n M X : Nat) (w : World) (hW : Whl w p n M) (hx : NatAt w x X) (hX : X < topN) :
  Calls Tryz.prog 179 #[p, x] w fun e w' => (∃ v, e = .returned (.tuple #[v, .int .i64 0]) ∧ OwnQ .u32 71 w.heap.size w' v (wideN n (X * radix n % M))) ∧ Below w.heap.size w w' := by
 obtain ⟨hn1, hn2, hMR, hMT, h3, hod⟩ := hW.val
 have HW := zH hW
 have HMR := zH hMR
 have HMN := zH (Nat.lt_of_lt_of_le hMT topM_le)
 have H3 := zH h3
 have HOD := zH hod
 have NX := zH hx
 have HX := zH hX
 obtain ⟨g, a, c, k, a1, c1, a2, c2, rfl, hC⟩ := hW
 have HC := zH hC
 have cm := hC.m
 have HNM := zH (hC.natM)
 have HML := zH (Nat.mod_lt X (show 0 < M by omega))
 clear hx hX hMR hMT h3 hod hC
 go_enter Tryz.func179, Tryz.ntmps179
 go_wp2_with fail
 refine (mod_nat NX.out HNM.out HX.out HMN.out (by have := H3.out; omega)).mono ?_
 rintro e w1 ⟨⟨v1, rfl, ho⟩, hb⟩
 have N1 := zH ho
 have HC1 := zH (HC.out.below hb)
 have HW1 := zH (HW.out.below hb)
 have B1 := zH hb
 have q0 := HC1.out.m
 have q3 := HC1.out.square
 clear ho hb cm
 go_wp2
 refine wp_region_held_drew (S := fun W => W.cell? ⟨g, 0, none⟩ = some (.slice a n c) ∧ W.cell? ⟨g, 3, none⟩ = some (.slice a2 n c2)) (by kernel_rfl) ⟨q0, q3⟩ (fun hHeld => ?_)
 refine' wpAnyH_take (i := 0) rfl (by kernel_rfl) (by kernel_rfl) (by kernel_rfl) (fun _ _ _ h => h) (Or.inl ⟨?_, ?_⟩) (by assumption) ?_
 rotate_left
 all_goals (try simp only [zq4, zq5, zq6])
 ·rfl
 ·intro W hSw; (try dsimp only at hSw); go_simp; (try with_reducible rfl)
 try simp only [Act.put, zq1, zq2, zq3]
 refine' wpAnyH_take (i := 1) rfl (by kernel_rfl) (by kernel_rfl) (by kernel_rfl) (fun _ _ _ h => h) (Or.inl ⟨?_, ?_⟩) (by assumption) ?_
 rotate_left
 all_goals (try simp only [zq4, zq5, zq6])
 ·rfl
 ·intro W hSw; (try dsimp only at hSw); go_simp; (try with_reducible rfl)
 try simp only [Act.put, zq1, zq2, zq3]
 refine' wpAnyH_take (i := 2) rfl (by kernel_rfl) (by kernel_rfl) (by kernel_rfl) (fun _ _ _ h => h) (Or.inl ⟨?_, ?_⟩) (by assumption) ?_
 rotate_left
 all_goals (try simp only [zq4, zq5, zq6])
 ·rfl
 ·intro W hSw; (try dsimp only at hSw); go_simp; (try with_reducible rfl)
 try simp only [Act.put, zq1, zq2, zq3]
 refine' wpAnyH_take (i := 3) rfl (by kernel_rfl) (by kernel_rfl) (by kernel_rfl) (fun _ _ _ h => h) (Or.inl ⟨?_, ?_⟩) (by assumption) ?_
 rotate_left
 all_goals (try simp only [zq4, zq5, zq6])
 ·rfl
 ·intro W hSw; (try dsimp only at hSw); go_simp; (try with_reducible rfl)
 try simp only [Act.put, zq1, zq2, zq3]
 refine' wpAnyH_take (i := 4) rfl (by kernel_rfl) (by kernel_rfl) (by kernel_rfl) (fun _ _ _ h => h) (Or.inl ⟨?_, ?_⟩) (by assumption) ?_
 rotate_left
 all_goals (try simp only [zq4, zq5, zq6])
 ·rfl
 ·intro W hSw; (try dsimp only at hSw); go_simp; (try with_reducible rfl)
 try simp only [Act.put, zq1, zq2, zq3]
 refine' wpAnyH_take (i := 5) rfl (by kernel_rfl) (by kernel_rfl) (by kernel_rfl) (fun _ _ _ h => h) (Or.inl ⟨?_, ?_⟩) (by assumption) ?_
 rotate_left
 all_goals (try simp only [zq4, zq5, zq6])
 ·rfl
 ·intro W hSw; (try dsimp only at hSw); go_simp; (try with_reducible rfl)
 try simp only [Act.put, zq1, zq2, zq3]
 refine' wpAnyH_take (i := 6) rfl (by kernel_rfl) (by kernel_rfl) (by kernel_rfl) (fun _ _ _ h => h) (Or.inl ⟨?_, ?_⟩) (by assumption) ?_
 rotate_left
 all_goals (try simp only [zq4, zq5, zq6])
 ·rfl
 ·intro W hSw; (try dsimp only at hSw); go_simp; (try with_reducible rfl)
 try simp only [Act.put, zq1, zq2, zq3]
 refine' wpAnyH_take (i := 8) rfl (by kernel_rfl) (by kernel_rfl) (by kernel_rfl) (fun _ _ _ h => h) (Or.inl ⟨?_, ?_⟩) (by assumption) ?_
 rotate_left
 all_goals (try simp only [zq4, zq5, zq6])
 ·rfl
 ·intro W hSw; (try dsimp only at hSw); go_simp; (try with_reducible rfl)
 try simp only [Act.put, zq1, zq2, zq3]
 refine' wpAnyH_take (i := 9) rfl (by kernel_rfl) (by kernel_rfl) (by kernel_rfl) (fun _ _ _ h => h) (Or.inl ⟨?_, ?_⟩) (by assumption) ?_
 rotate_left
 all_goals (try simp only [zq4, zq5, zq6])
 ·rfl
 ·intro W hSw; (try dsimp only at hSw); go_simp; (try with_reducible rfl)
 try simp only [Act.put, zq1, zq2, zq3]
 refine' wpAnyH_take (i := 10) rfl (by kernel_rfl) (by kernel_rfl) (by kernel_rfl) (fun _ _ _ h => h) (Or.inl ⟨?_, ?_⟩) (by assumption) ?_
 rotate_left
 all_goals (try simp only [zq4, zq5, zq6])
 ·rfl
 ·intro W hSw; (try dsimp only at hSw); go_simp; (try with_reducible rfl)
 try simp only [Act.put, zq1, zq2, zq3]
 refine' wpAnyH_take (i := 11) rfl (by kernel_rfl) (by kernel_rfl) (by kernel_rfl) (fun _ _ _ h => h) (Or.inl ⟨?_, ?_⟩) (by assumption) ?_
 rotate_left
 all_goals (try simp only [zq4, zq5, zq6])
 ·rfl
 ·intro W hSw; (try dsimp only at hSw); go_simp; (try with_reducible rfl)
 try simp only [Act.put, zq1, zq2, zq3]
 refine wpAnyH_ready (rs := [7]) (by kernel_rfl) (by simp) ?_
 refine AllReadyH.cons (o := _) rfl (fun K hK => ?_) AllReadyH.nil
 try simp only [zq4, zq5, zq6]
 go_simp
 refine (wide_w (N1.out.below (Below.refl w1.heap.size w1).drew) (Nat.lt_trans HML.out HMR.out) (by omega)).mono ?_
 rintro e w2 ⟨⟨v2, rfl, ho2⟩, hb2⟩
 have D2 := zH ((Below.refl w1.heap.size w1).drew.trans hb2)
 have HC2 := zH (HC1.out.below D2.out)
 have HW2 := zH (HW1.out.below D2.out)
 have X2 := zH (WideAt.of ho2 (Nat.lt_trans HML.out HMR.out))
 have q0 := HC2.out.m
 have q3 := HC2.out.square
 have S2 : Hid (WideAt w2 (.slice a2 n c2) n (radix n * radix n % M)) := zH ⟨_, _, rfl, HC2.out.r2, Nat.lt_trans (Nat.mod_lt _ (by have := H3.out; omega)) HMR.out⟩
 clear ho2 hb2
 go_wp2_with fail
 refine hK.out _ _ ⟨q0, q3⟩ (fun hHeld => ?_)
 clear hK K
 try simp only [Act.put, zq1, zq2, zq3]
 refine wpAnyH_ready (rs := [12]) (by kernel_rfl) (by simp) ?_
 refine AllReadyH.cons (o := _) rfl (fun K hK => ?_) AllReadyH.nil
 try simp only [zq4, zq5, zq6]
 go_simp
 refine (times_w HW2.out X2.out S2.out HML.out).mono ?_
 rintro e w3 ⟨⟨v3, rfl, ho3⟩, hb3⟩
 rw [squareR (by have := H3.out; omega) HOD.out] at ho3
 have D3 := zH hb3
 have HC3 := zH (HC2.out.below D3.out)
 have q0 := HC3.out.m
 have q3 := HC3.out.square
 have O3 := zH ho3
 clear ho3 hb3
 go_wp2_with fail
 refine hK.out _ _ ⟨q0, q3⟩ (fun hHeld => ?_)
 clear hK K
 try simp only [Act.put, zq1, zq2, zq3]
 refine' wpAnyH_take (i := 13) rfl (by kernel_rfl) (by kernel_rfl) (by kernel_rfl) (fun _ _ _ h => h) (Or.inl ⟨?_, ?_⟩) (by assumption) ?_
 rotate_left
 all_goals (try simp only [zq4, zq5, zq6])
 ·rfl
 ·intro W hSw; (try dsimp only at hSw); go_simp; (try with_reducible rfl)
 try simp only [Act.put, zq1, zq2, zq3]
 refine' wpAnyH_take (i := 14) rfl (by kernel_rfl) (by kernel_rfl) (by kernel_rfl) (fun _ _ _ h => h) (Or.inl ⟨?_, ?_⟩) (by assumption) ?_
 rotate_left
 all_goals (try simp only [zq4, zq5, zq6])
 ·rfl
 ·intro W hSw; (try dsimp only at hSw); go_simp; (try with_reducible rfl)
 try simp only [Act.put, zq1, zq2, zq3]
 refine wpAnyH_done (by kernel_rfl) ?_ _
 go_wp2
 go_ret2
 exact ⟨⟨_, rfl, O3.out.mono (Nat.le_trans B1.out.size D2.out.size)⟩, B1.out.trans ((D2.out.mono B1.out.size).trans (D3.out.mono (Nat.le_trans B1.out.size D2.out.size)))⟩
set_option maxHeartbeats 1000000 in
theorem in_no (p x : Value) (n M X : Nat) (w : World) (hW : Whl w p n M) (hx : NatAt w x X) (hX : ¬ X < topN) :
  Calls Tryz.prog 179 #[p, x] w fun e w' => e = .returned (.tuple #[.slice none 0 0, .int .i64 20]) ∧ Below w.heap.size w w' := by
 obtain ⟨g, a, c, k, a1, c1, a2, c2, rfl, hC⟩ := hW
 have cm := hC.m
 have HMD := zH (mod_any _ _ _ _ w hx hC.natM)
 rw [modR_no (fun h => hX h.1)] at HMD
 clear hx hX hC
 go_enter Tryz.func179, Tryz.ntmps179
 go_wp2_with fail
 refine HMD.out.mono ?_
 rintro e w1 ⟨⟨v1, rfl, -⟩, hb⟩
 have B1 := zH hb
 clear hb
 go_wp2
 go_ret2
 exact ⟨rfl, B1.out⟩
set_option maxRecDepth 100000 in
set_option maxHeartbeats 2000000 in
theorem out_any (p x : Value) (n M X : Nat) (w : World) (hW : Whl w p n M) (hx : WideAt w x n X) (hX : X < M) :
  Calls Tryz.prog 183 #[p, x] w fun e w' => RetsQ .u32 71 w.heap.size w' (nat32 (monN n M X)) e ∧ Below w.heap.size w w' := by
 obtain ⟨hn1, hn2, hMR, hMT, h3, hod⟩ := hW.val
 have HW := zH hW
 have HMR := zH hMR
 have HMN := zH (Nat.lt_of_lt_of_le hMT topM_le)
 have H3 := zH h3
 have HOD := zH hod
 have NX := zH hx
 have HX := zH hX
 obtain ⟨g, a, c, k, a1, c1, a2, c2, rfl, hC⟩ := hW
 have HC := zH hC
 have q0 := hC.m
 have HR := zH (show monN n M X < M from monN_lt (by omega))
 have H1R := zH (show 1 < radix n by omega)
 clear hx hX hMR hMT h3 hod hC
 go_enter Tryz.func183, Tryz.ntmps183
 go_wp2
 refine wp_region_held_drew (S := fun W => W.cell? ⟨g, 0, none⟩ = some (.slice a n c)) (by kernel_rfl) q0 (fun hHeld => ?_)
 refine' wpAnyH_take (i := 0) rfl (by kernel_rfl) (by kernel_rfl) (by kernel_rfl) (fun _ _ _ h => h) (Or.inl ⟨?_, ?_⟩) (by assumption) ?_
 rotate_left
 all_goals (try simp only [zq4, zq5, zq6])
 ·rfl
 ·intro W hSw; (try dsimp only at hSw); go_simp; (try with_reducible rfl)
 try simp only [Act.put, zq1, zq2, zq3]
 refine' wpAnyH_take (i := 1) rfl (by kernel_rfl) (by kernel_rfl) (by kernel_rfl) (fun _ _ _ h => h) (Or.inl ⟨?_, ?_⟩) (by assumption) ?_
 rotate_left
 all_goals (try simp only [zq4, zq5, zq6])
 ·rfl
 ·intro W hSw; (try dsimp only at hSw); go_simp; (try with_reducible rfl)
 try simp only [Act.put, zq1, zq2, zq3]
 refine' wpAnyH_take (i := 3) rfl (by kernel_rfl) (by kernel_rfl) (by kernel_rfl) (fun _ _ _ h => h) (Or.inl ⟨?_, ?_⟩) (by assumption) ?_
 rotate_left
 all_goals (try simp only [zq4, zq5, zq6])
 ·rfl
 ·intro W hSw; (try dsimp only at hSw); go_simp; (try with_reducible rfl)
 try simp only [Act.put, zq1, zq2, zq3]
 refine' wpAnyH_take (i := 4) rfl (by kernel_rfl) (by kernel_rfl) (by kernel_rfl) (fun _ _ _ h => h) (Or.inl ⟨?_, ?_⟩) (by assumption) ?_
 rotate_left
 all_goals (try simp only [zq4, zq5, zq6])
 ·rfl
 ·intro W hSw; (try dsimp only at hSw); go_simp; (try with_reducible rfl)
 try simp only [Act.put, zq1, zq2, zq3]
 refine' wpAnyH_take (i := 5) rfl (by kernel_rfl) (by kernel_rfl) (by kernel_rfl) (fun _ _ _ h => h) (Or.inl ⟨?_, ?_⟩) (by assumption) ?_
 rotate_left
 all_goals (try simp only [zq4, zq5, zq6])
 ·rfl
 ·intro W hSw; (try dsimp only at hSw); go_simp; (try with_reducible rfl)
 try simp only [Act.put, zq1, zq2, zq3]
 refine' wpAnyH_take (i := 6) rfl (by kernel_rfl) (by kernel_rfl) (by kernel_rfl) (fun _ _ _ h => h) (Or.inl ⟨?_, ?_⟩) (by assumption) ?_
 rotate_left
 all_goals (try simp only [zq4, zq5, zq6])
 ·rfl
 ·intro W hSw; (try dsimp only at hSw); go_simp; (try with_reducible rfl)
 try simp only [Act.put, zq1, zq2, zq3]
 refine' wpAnyH_take (i := 7) rfl (by kernel_rfl) (by kernel_rfl) (by kernel_rfl) (fun _ _ _ h => h) (Or.inl ⟨?_, ?_⟩) (by assumption) ?_
 rotate_left
 all_goals (try simp only [zq4, zq5, zq6])
 ·rfl
 ·intro W hSw; (try dsimp only at hSw); go_simp; (try with_reducible rfl)
 try simp only [Act.put, zq1, zq2, zq3]
 refine wpAnyH_ready (rs := [2]) (by kernel_rfl) (by simp) ?_
 refine AllReadyH.cons (o := _) rfl (fun K hK => ?_) AllReadyH.nil
 try simp only [zq4, zq5, zq6]
 go_simp
 refine (of_nat 1 1 rfl _ (by decide)).mono ?_
 rintro e w1 ⟨⟨v1, rfl, ho1⟩, hb1⟩
 have D1 := zH ((Below.refl w.heap.size w).drew.trans hb1)
 have N1 := zH ho1
 have HC1 := zH (HC.out.below D1.out)
 have q0 := HC1.out.m
 clear ho1 hb1
 go_wp2_with fail
 refine hK.out _ _ q0 (fun hHeld => ?_)
 clear hK K
 try simp only [Act.put, zq1, zq2, zq3]
 refine wpAnyH_ready (rs := [8]) (by kernel_rfl) (by simp) ?_
 refine AllReadyH.cons (o := _) rfl (fun K hK => ?_) AllReadyH.nil
 try simp only [zq4, zq5, zq6]
 go_simp
 refine (wide_w N1.out H1R.out (by omega)).mono ?_
 rintro e w2 ⟨⟨v2, rfl, ho2⟩, hb2⟩
 have D2 := zH (D1.out.trans (hb2.mono D1.out.size))
 have Y2 := zH (WideAt.of ho2 H1R.out)
 have X2 := zH (NX.out.below D2.out)
 have HW2 := zH (HW.out.below D2.out)
 have HC2 := zH (HC.out.below D2.out)
 have q0 := HC2.out.m
 clear ho2 hb2
 go_wp2_with fail
 refine hK.out _ _ q0 (fun hHeld => ?_)
 clear hK K
 try simp only [Act.put, zq1, zq2, zq3]
 refine wpAnyH_ready (rs := [9]) (by kernel_rfl) (by simp) ?_
 refine AllReadyH.cons (o := _) rfl (fun K hK => ?_) AllReadyH.nil
 try simp only [zq4, zq5, zq6]
 go_simp
 refine (times_w HW2.out X2.out Y2.out HX.out).mono ?_
 rintro e w3 ⟨⟨v3, rfl, ho3⟩, hb3⟩
 rw [Nat.mul_one] at ho3
 have D3 := zH (D2.out.trans (hb3.mono D2.out.size))
 have Z3 := zH (WideAt.of ho3 (Nat.lt_trans HR.out HMR.out))
 have HC3 := zH (HC.out.below D3.out)
 have q0 := HC3.out.m
 clear ho3 hb3
 go_wp2_with fail
 refine hK.out _ _ q0 (fun hHeld => ?_)
 clear hK K
 try simp only [Act.put, zq1, zq2, zq3]
 refine wpAnyH_ready (rs := [10]) (by kernel_rfl) (by simp) ?_
 refine AllReadyH.cons (o := _) rfl (fun K hK => ?_) AllReadyH.nil
 try simp only [zq4, zq5, zq6]
 go_simp
 refine (narrow_w Z3.out (Nat.lt_trans HR.out HMN.out)).mono ?_
 rintro e w4 ⟨⟨v4, rfl, ho4⟩, hb4⟩
 have D4 := zH (D3.out.trans (hb4.mono D3.out.size))
 have O4 := zH (ho4.mono D3.out.size)
 have HC4 := zH (HC.out.below D4.out)
 have q0 := HC4.out.m
 clear ho4 hb4
 go_wp2_with fail
 refine hK.out _ _ q0 (fun hHeld => ?_)
 clear hK K
 try simp only [Act.put, zq1, zq2, zq3]
 refine' wpAnyH_take (i := 11) rfl (by kernel_rfl) (by kernel_rfl) (by kernel_rfl) (fun _ _ _ h => h) (Or.inl ⟨?_, ?_⟩) (by assumption) ?_
 rotate_left
 all_goals (try simp only [zq4, zq5, zq6])
 ·rfl
 ·intro W hSw; (try dsimp only at hSw); go_simp; (try with_reducible rfl)
 try simp only [Act.put, zq1, zq2, zq3]
 refine wpAnyH_done (by kernel_rfl) ?_ _
 go_wp2
 go_ret
 exact ⟨⟨_, rfl, O4.out⟩, D4.out⟩
end Go.Proofs.YtpefjkndfifceaaGreatDoor
namespace Go.Proofs.YtpefjkndfifceaaGreatDoor
open Go.RowKit
theorem OwnQ.keep {q : IntKind} {E B : Nat} {w w2 : World} {v : Value} {l : List Nat} (h : OwnQ q E B w v l) (hk : ∀ i, B ≤ i → i < w.heap.size → w2.heap[i]? = w.heap[i]?) : OwnQ q E B w2 v l := by
 obtain ⟨h1, h2⟩ := h
 refine ⟨h1, ?_⟩
 rcases h2 with h2 | ⟨g, cap, cur, hv, hB, hg, h3⟩
 ·exact .inl h2
 ·refine .inr ⟨g, cap, cur, hv, hB, ?_, h3⟩
  rw [hk g hB (Array.getElem?_eq_some_iff.1 hg).1]
  exact hg
def WhlFrom (B : Nat) (w : World) (p : Value) (n M : Nat) : Prop := ∀ w2 : World, w.heap.size ≤ w2.heap.size → (∀ i, B ≤ i → i < w.heap.size → w2.heap[i]? = w.heap[i]?) → Whl w2 p n M
theorem WhlFrom.whl {B n M : Nat} {w : World} {p : Value} (h : WhlFrom B w p n M) : Whl w p n M := h w (Nat.le_refl _) (fun _ _ _ => rfl)
theorem WhlFrom.new {B n M k : Nat} {E : TypeId} {w : World} {a a1 a2 : Option Addr} {c c1 c2 : Nat} {vm v1 v2 : Value} (hB : B ≤ w.heap.size) (hm : OwnQ .u32 71 B w vm (nat32 M)) (h1 : OwnQ .u32 71 B w v1 (wideN n (radix n % M))) (h2 : OwnQ .u32 71 B w v2 (wideN n (radix n * radix n % M)))
  (em : vm = .slice a n c) (e1 : v1 = .slice a1 n c1) (e2 : v2 = .slice a2 n c2) (kl : k < 4294967296) (inv : (k * M + 1) % 4294967296 = 0) (odd : M % 2 = 1) (three : 3 ≤ M) (small : M < topM) :
  WhlFrom B (w.alloc (.cells #[vm, .int .u32 (k : Int), v1, v2] E)) (.pointer (some ⟨w.heap.size, 0, none⟩)) n M := by
 subst em e1 e2
 intro w2 hs hk
 rw [World.size_alloc] at hs hk
 have hk2 : ∀ i, B ≤ i → i < w.heap.size → w2.heap[i]? = w.heap[i]? := fun i hi hl => by
  rw [hk i hi (by omega)]
  exact ((Below.refl w.heap.size w).alloc (Nat.le_refl _) _).block i hl
 have hg : w2.heap[w.heap.size]? = some (.cells #[.slice a n c, .int .u32 (k : Int), .slice a1 n c1, .slice a2 n c2] E (0, 0)) := by
  rw [hk _ hB (by omega)]
  exact heap_alloc_new w _
 refine ⟨w.heap.size, a, c, k, a1, c1, a2, c2, rfl, ?_⟩
 refine ⟨by omega, ?_, ?_, ?_, ?_, (hm.keep hk2).reads, (h1.keep hk2).reads, (h2.keep hk2).reads, kl, inv, odd, three, small⟩
 all_goals
  rw [cell_of_row w2 w.heap.size _ _ E (0, 0) hg]
  rfl
theorem testBit_odd {M : Nat} (h : M % 2 = 1) : M.testBit 0 = true := by simp [Nat.testBit_zero, h]
theorem radix_le {n : Nat} (h : n ≤ 128) : radix n < topN := by
 have h1 : radix n ≤ topM := Nat.pow_le_pow_right (by decide) h
 have h2 : topM < topN := by
  unfold topM topN
  exact Nat.pow_lt_pow_right (by decide) (by decide)
 omega
set_option maxRecDepth 100000 in
set_option maxHeartbeats 4000000 in
theorem new_ok (x : Value) (M : Nat) (w : World) (hx : NatAt w x M) (hM : M < topM) (h3 : 3 ≤ M) (ho : M % 2 = 1) :
  Calls Tryz.prog 138 #[x] w fun e w' => (∃ p, e = .returned (.tuple #[p, .int .i64 0]) ∧ WhlFrom w.heap.size w' p (nat32 M).length M) ∧ Below w.heap.size w w' := by
 have NX := zH hx
 have HM := zH hM
 have HMN := zH (Nat.lt_of_lt_of_le hM topM_le)
 have H3 := zH h3
 have HOD := zH ho
 have H0 := zH (show 0 < M by omega)
 have HTB := zH (testBit_odd ho)
 have hoo : ∃ o : Int, o = ordN M 3 ∧ 0 ≤ o := ⟨_, rfl, by unfold ordN; split <;> (try split) <;> omega⟩
 obtain ⟨o, ho1, ho2⟩ := hoo
 have HO := zH ho1
 have F := zH (Below.refl w.heap.size w)
 clear hx hM h3 ho ho1
 go_enter Tryz.func138, Tryz.ntmps138
 go_wp2_with fail
 refine (trim_ok NX.out HMN.out).mono ?_
 rintro e w1 ⟨⟨v1, rfl, ho⟩, hb⟩
 obtain ⟨a1, n, c1, rfl, hn, ho⟩ := ho.slice
 have O := zH (ho)
 replace F := zH (F.out.trans (hb.mono F.out.size))
 clear hb
 have HNL := zH hn
 have hn128 := (own_short (k := 128) O.out).2 HM.out
 have hd : decide ((128 : Int) < (n : Int)) = false := by simp; omega
 have hn1 : 1 ≤ n := by
  apply Nat.pos_of_ne_zero
  intro e
  have h := (own_zero O.out).1 e
  have := H0.out
  omega
 obtain ⟨g1, gc, ge⟩ := O.out.succ (by intro e; rw [e] at hn; simp at hn; omega)
 obtain ⟨rfl, rfl⟩ : a1 = some ⟨g1, 0, none⟩ ∧ c1 = gc := by injection ge with e1 e2 e3; exact ⟨e1, e3⟩
 have NM := zH (natAt_own O.out)
 clear ge hn
 go_wp2_with fail
 refine (bit_nat NM.out 0 (by decide) true (by rw [show ((0 : Int).toNat) = 0 from rfl, HTB.out]; rfl)).mono ?_
 rintro e wz ⟨rfl, rfl⟩
 go_wp2_with fail
 refine (of_own 3 3 rfl _ (by decide)).mono ?_
 rintro e w2 ⟨⟨v2, rfl, ho⟩, hb⟩
 replace O := zH (O.out.below hb)
 replace NM := zH (NM.out.below hb)
 have O2 := zH (natAt_own ho)
 replace F := zH (F.out.trans (hb.mono F.out.size))
 clear hb
 go_wp2_with fail
 refine (cmp_nat NM.out O2.out o HO.out).mono ?_
 rintro e w3 ⟨rfl, hb⟩
 replace O := zH (O.out.below hb)
 replace NM := zH (NM.out.below hb)
 replace O2 := zH (O2.out.below hb)
 replace F := zH (F.out.trans (hb.mono F.out.size))
 clear hb
 clear O2
 have hmul : ((32 : Int) * (n : Int)) = ((32 * n : Nat) : Int) := by simp
 have hmb : 32 * n ≤ 4096 := by omega
 obtain ⟨sh, hsh⟩ : ∃ sh, sh = 32 * n := ⟨_, rfl⟩
 rw [← hsh] at hmul hmb
 have HSH : Hid (1 * 2 ^ sh = radix n) := zH (by rw [Nat.one_mul, hsh]; unfold radix; rw [Nat.pow_mul])
 clear hsh
 have HRT := zH (radix_le hn128)
 go_wp2_with fail
 refine (of_own 1 1 rfl _ (by decide)).mono ?_
 rintro e w4 ⟨⟨v3, rfl, ho⟩, hb⟩
 replace O := zH (O.out.below hb)
 replace NM := zH (NM.out.below hb)
 have O3 := zH (natAt_own ho)
 replace F := zH (F.out.trans (hb.mono F.out.size))
 clear hb
 go_wp2_with fail
 refine (shl_nat O3.out (sh : Int) sh rfl (by omega) (by rw [HSH.out]; exact HRT.out)).mono ?_
 rintro e w5 ⟨⟨v4, rfl, ho⟩, hb⟩
 replace O := zH (O.out.below hb)
 replace NM := zH (NM.out.below hb)
 replace O3 := zH (O3.out.below hb)
 have R := zH (by rw [HSH.out] at ho; exact ho.at)
 replace F := zH (F.out.trans (hb.mono F.out.size))
 clear hb
 clear O3
 go_wp2_with fail
 refine (mod_nat R.out NM.out HRT.out HMN.out H0.out).mono ?_
 rintro e w6 ⟨⟨v5, rfl, ho⟩, hb⟩
 replace O := zH (O.out.below hb)
 replace NM := zH (NM.out.below hb)
 replace R := zH (R.out.below hb)
 have ON := zH (ho)
 replace F := zH (F.out.trans (hb.mono F.out.size))
 clear hb
 clear R
 have hr1 := zH (Nat.mod_lt (radix n) H0.out)
 go_wp2_with fail
 refine (mulMod_any _ _ _ _ _ _ _ ON.out.at ON.out.at NM.out).mono ?_
 rintro e w7 ⟨hr, hb⟩
 rw [mulModR_yes HM.out (Nat.lt_trans hr1.out HMN.out) (Nat.lt_trans hr1.out HMN.out) H0.out, ← Nat.mul_mod] at hr
 obtain ⟨v6, rfl, ho⟩ := hr
 replace O := zH (O.out.below hb)
 replace NM := zH (NM.out.below hb)
 replace ON := zH (ON.out.below hb)
 have SQ := zH (NatC.of ho)
 replace F := zH (F.out.trans (hb.mono F.out.size))
 clear hb
 have hr2 := zH (Nat.mod_lt (radix n * radix n) H0.out)
 have HMR : Hid (M < radix n) := zH ((own_short (k := n) O.out).1 (Nat.le_refl _))
 have hc0 := O.out.cellAt HNL.out 0 (by omega)
 have hm0 : (nat32 M)[0]?.getD 0 = M % 4294967296 := by rw [natB_get (by decide)]; simp
 rw [hm0] at hc0
 obtain ⟨m0, hm00⟩ : ∃ m0, m0 = M % 4294967296 := ⟨_, rfl⟩
 rw [← hm00] at hc0
 have HMI := zH (fun W => minusInverse_any m0 W (by omega) (by have := HOD.out; omega))
 have HM0 := zH hm00
 clear hm0 hm00
 go_wp2_with fail
 refine (HMI.out _).mono ?_
 rintro e wz ⟨⟨kk, rfl, hkl, hinv⟩, rfl⟩
 have HKL := zH hkl
 have HIV : Hid ((kk * M + 1) % 4294967296 = 0) := zH (by
  rw [HM0.out, Nat.add_mod, Nat.mul_mod_mod, ← Nat.add_mod] at hinv
  exact hinv)
 clear hkl hinv hc0
 go_wp2_with fail
 refine (wide_w ON.out (Nat.lt_trans hr1.out HMR.out) (by omega)).mono ?_
 rintro e w8 ⟨⟨v7, rfl, ho⟩, hb⟩
 replace O := zH (O.out.below hb)
 replace NM := zH (NM.out.below hb)
 replace ON := zH (ON.out.below hb)
 replace SQ := zH (SQ.out.below hb)
 have W1 := zH (ho.mono F.out.size)
 replace F := zH (F.out.trans (hb.mono F.out.size))
 clear hb
 go_wp2_with fail
 refine (wide_w SQ.out (Nat.lt_trans hr2.out HMR.out) (by omega)).mono ?_
 rintro e w9 ⟨⟨v8, rfl, ho⟩, hb⟩
 replace O := zH (O.out.below hb)
 replace NM := zH (NM.out.below hb)
 replace ON := zH (ON.out.below hb)
 replace SQ := zH (SQ.out.below hb)
 replace W1 := zH (W1.out.below hb)
 have W2 := zH (ho.mono F.out.size)
 replace F := zH (F.out.trans (hb.mono F.out.size))
 clear hb
 obtain ⟨b1, n1, d1, rfl, hl1, w1o⟩ := W1.out.slice
 obtain ⟨b2, n2, d2, rfl, hl2, w2o⟩ := W2.out.slice
 rw [wideN_len (Nat.lt_trans hr1.out HMR.out)] at hl1
 rw [wideN_len (Nat.lt_trans hr2.out HMR.out)] at hl2
 subst hl1 hl2
 have HFR := zH (WhlFrom.new (E := 206) F.out.size O.out w1o w2o rfl rfl rfl HKL.out HIV.out HOD.out H3.out HM.out)
 rw [HNL.out] at HFR
 clear w1o w2o W1 W2
 go_wp2
 go_ret2
 exact ⟨⟨_, rfl, by rw [HNL.out]; exact HFR.out⟩, F.out.alloc F.out.size _⟩
end Go.Proofs.YtpefjkndfifceaaGreatDoor
namespace Go.Proofs.YtpefjkndfifceaaGreatDoor
open Go.RowKit
def inR (n M X : Nat) : List Nat × Int := if X < topN then (nat32 (X * radix n % M), 0) else ([], 20)
def outR (n M X : Nat) : List Nat × Int := if X < M then (nat32 (monN n M X), 0) else ([], 70)
def productR (n M X Y : Nat) : List Nat × Int := if X < M ∧ Y < M then (nat32 (monN n M (X * Y)), 0) else ([], 70)
end Go.Proofs.YtpefjkndfifceaaGreatDoor
namespace Go.Proofs.YtpefjkndfifceaaGreatDoor
open Go.RowKit Go.Shelf
attribute [local go_sem] Oper.semAt_some
theorem Reads.keptCells {q : IntKind} {W W' : World} {row : Option Nat} {a : Option Addr} {len cap : Nat} {l : List Nat} (h : Reads q W a len cap l) (hg : W.grownBy W' row) (hr : ∀ r, row = some r → ∃ o : Obj, W.heap[r]? = some o ∧ o.isCells = false) : Reads q W' a len cap l :=
 ⟨h.length, h.le, h.max, h.nil, fun hp => by
  obtain ⟨b, off, rfl, hb, hc⟩ := h.cells hp
  refine ⟨b, off, rfl, Nat.lt_of_lt_of_le hb hg.size, fun i hi => ?_⟩
  have h1 := hc i hi
  refine (World.cell?_of_block (hg.block b hb ?_)).trans h1
  intro e
  obtain ⟨o, ho, hcl⟩ := hr b e.symm
  simp only [World.cell?, ho] at h1
  cases o <;> simp_all [Obj.isCells]⟩
def KpB (n₀ b : Nat) (W W' : World) : Prop := Below n₀ W W' ∧ ∀ t v, Boxed W b t v → Boxed W' b t v
theorem kpB_t {n₀ b : Nat} {A B C : World} (h : KpB n₀ b A B) (k : KpB n₀ b B C) : KpB n₀ b A C := ⟨h.1.trans k.1, fun t v x => k.2 t v (h.2 t v x)⟩
theorem kpB_b {n₀ b : Nat} {w : World} (hn : n₀ ≤ w.heap.size) (W : World) (l : Nat) (o o' : Obj) (hl : w.heap.size ≤ l) (h : W.heap[l]? = some o) (hc : o.isCells = false) (hw : o.isWalk = false) : KpB n₀ b W (W.putObj l o') :=
 ⟨belowK_b hn W l o o' hl h hc hw, fun _ _ x => boxed_putObj x l o o' h hc⟩
abbrev encB {m : Nat} (f : Nat → Bool) (x : Place m) : Array Value := #[.bool (f x.1)]
set_option maxRecDepth 100000 in
set_option maxHeartbeats 2000000 in
theorem bits_stops (n : Nat) (hn : 2 ≤ n) (n₀ b m K : Nat) (f : Nat → Bool) (a : Option Addr) (nk ck : Nat) (l : List Nat) (w : World) (hb : Boxed w b 44 (.slice a nk ck)) (hk : Reads .u32 w a nk ck l) (hL : Lim l) (hK : val32 l = K)
  (ha : 0 < nk → ∀ ad, a = some ad → ad.block < n₀) (hn₀ : n₀ ≤ w.heap.size) (hnk : nk ≤ 256) (hm : m = bitsN K) (hm2 : m ≤ 8192) (hf : ∀ i, f i = K.testBit i) :
  SeqStopsK Fence.wide n Tryz.prog 199 #[.pointer (some ⟨b, 0, none⟩)] (encB (m := m) f) (KpB n₀ b) (fun xs => xs.map (·.1) = falls m m) (fun _ => True) m w := fun lp J Jx W hW hJ hJx hY h0 => by
 have bX : Boxed W b 44 (.slice a nk ck) := (hW.block b hb.lt).trans hb
 have HKW := zH (hk.below hW)
 have hsW := Nat.le_trans hn₀ hW.size
 clear hb hk hn₀
 have cX := bX.cell
 have BX := zH bX
 have HL := zH hL
 have HM := zH hm
 have HF := zH hf
 have HKV := zH hK
 clear bX hL hm hf hK
 have HBT := zH (bits_nat (⟨a, nk, ck, l, rfl, HKW.out, HL.out, HKV.out⟩ : NatAt W (.slice a nk ck) K) (fun a' n' c' e => by cases e; omega) m HM.out)
 refine callsIn_of_wp Tryz.func199 rfl trivial ?_ rfl
 simp only [Tryz.ntmps199, List.size_toArray, List.length_cons, List.length_nil, Nat.reduceAdd, Nat.reduceSub, Array.replicate_succ, Array.replicate_zero, List.push_toArray, List.append_toArray, List.nil_append, List.cons_append]
 gi_wp2_with fail
 refine ⟨trivial, fun _ => by omega, ?_⟩
 refine (callsIn_wide.2 HBT.out).mono ?_
 rintro e w' ⟨rfl, rfl⟩
 clear HBT
 gi_wp2
 gi_loopw [3] (fun i wr => ∃ k : Nat, ((∃ j : Nat, i = .int .i64 j ∧ j + k + 1 = m) ∨ (i = .int .i64 (-1) ∧ k = m)) ∧ (∃ pre : List (Place m), Hid (pre.map (·.1) = falls m k ∧ J pre wr)) ∧ Hid (KpB n₀ b W wr)) (fun i _ => (intOf i + 1).toNat)
 case atStart => exact ⟨0, down_start m, ⟨[], rfl, h0⟩, Below.refl _ _, fun _ _ h => h⟩
 case round =>
  obtain ⟨k, hi, ⟨pre, hJs⟩, hkp⟩ := hrel
  rcases hi with ⟨j, rfl, hjk⟩ | ⟨rfl, hkm⟩
  ·have HJK := zH hjk
   have hjm : j < m := by omega
   have hpl := zH (show pre.length = k by have := congrArg List.length hJs.out.1; simpa [falls_length] using this)
   have cX1 := (hkp.out.2 _ _ BX.out).cell
   have RK := zH (HKW.out.belowN ha hkp.out.1)
   have HBI := zH (bit_nat (⟨a, nk, ck, l, rfl, RK.out, HL.out, HKV.out⟩ : NatAt wr (.slice a nk ck) K) (j : Int) (by omega) (f j) (by rw [HF.out, Int.toNat_natCast, decide_eq_true (by omega), Bool.true_and]))
   obtain ⟨fn, tmps, assign, body, hy, hR⟩ := hY pre ⟨j, hjm⟩ wr hJs.out.2 (by rw [hpl.out]; omega)
   simp only [encB] at hy
   have hpm := zH (show (pre ++ [(⟨j, hjm⟩ : Place m)]).map (·.1) = falls m (k + 1) by rw [falls_succ m k j (by omega), List.map_append, hJs.out.1]; rfl)
   have HR := zH hR
   clear hjk hR
   generalize f j = bt at *
   gi_wp2_with fail
   refine ⟨trivial, fun _ => by omega, ?_⟩
   refine (callsIn_wide.2 HBI.out).mono ?_
   rintro e w' ⟨rfl, rfl⟩
   gi_wp2_with fail
   refine ⟨fun _ => by omega, ?_⟩
   refine HR.out.mono ?_
   rintro e W3 (⟨rfl, hJ1, hk3⟩ | ⟨rfl, hx1⟩)
   ·have HJ1 := zH hJ1
    have HK3 := zH hk3
    clear hJ1 hk3
    gi_wp2
    go_roundw
    case rel => exact ⟨k + 1, down_next HJK.out, ⟨_, hpm.out, HJ1.out⟩, kpB_t hkp.out HK3.out⟩
    case measure => simp [intOf] <;> omega
   ·have HX1 := zH hx1
    clear hx1
    gi_wp2
    refine bodyPost_ret (results_none rfl _ _ _) rfl ?_
    exact ⟨⟨_, rfl⟩, .inr ⟨_, trivial, HX1.out⟩⟩
  ·have HKM := zH hkm
   clear hkm
   gi_wp2
   go_end0
   exact ⟨⟨_, rfl⟩, .inl ⟨pre, HKM.out ▸ hJs.out.1, hJs.out.2⟩⟩
theorem fallingB_any (w : World) (a : Option Addr) (n c : Nat) : Calls Tryz.prog 181 #[.slice a n c] w fun e w' => e = .returned (.func (.func 199) #[] #[.pointer (some ⟨w.heap.size, 0, none⟩)]) ∧ w' = w.alloc (.cells #[.slice a n c] 44) := by
 go_enter Tryz.func181, Tryz.ntmps181
 go_wp2
 go_ret
 exact ⟨rfl, rfl⟩
end Go.Proofs.YtpefjkndfifceaaGreatDoor
namespace Go.Proofs.YtpefjkndfifceaaGreatDoor
open Go.RowKit Go.Shelf
attribute [local go_sem] Oper.semAt_some
theorem pairA (w : World) (T T' : TypeId) (f v : Value) : Hid (Boxed ((w.alloc (.cells #[f] T)).alloc (.cells #[v] T')).drew w.heap.size T f ∧ Boxed ((w.alloc (.cells #[f] T)).alloc (.cells #[v] T')).drew (w.heap.size + 1) T' v ∧ w.heap.size ≠ w.heap.size + 1 ∧ w.heap.size ≤ w.heap.size ∧ w.heap.size ≤ w.heap.size + 1 ∧ Below w.heap.size w ((w.alloc (.cells #[f] T)).alloc (.cells #[v] T')).drew) := by
 refine ⟨(Boxed.new w T f).alloc (.cells #[v] T'), ?_, by omega, by omega, by omega, (((Below.refl w.heap.size w).alloc (Nat.le_refl _) _).alloc (by simp) _).drew⟩
 have h := Boxed.new (w.alloc (.cells #[f] T)) T' v
 simp only [World.size_alloc] at h
 exact h
theorem pairB (w : World) (T T' : TypeId) (f v : Value) : Hid (Boxed ((w.alloc (.cells #[v] T')).alloc (.cells #[f] T)).drew (w.heap.size + 1) T f ∧ Boxed ((w.alloc (.cells #[v] T')).alloc (.cells #[f] T)).drew w.heap.size T' v ∧ w.heap.size + 1 ≠ w.heap.size ∧ w.heap.size ≤ w.heap.size + 1 ∧ w.heap.size ≤ w.heap.size ∧ Below w.heap.size w ((w.alloc (.cells #[v] T')).alloc (.cells #[f] T)).drew) := by
 refine ⟨?_, (Boxed.new w T' v).alloc (.cells #[f] T), by omega, by omega, by omega, (((Below.refl w.heap.size w).alloc (Nat.le_refl _) _).alloc (by simp) _).drew⟩
 have h := Boxed.new (w.alloc (.cells #[v] T')) T f
 simp only [World.size_alloc] at h
 exact h
def PowI (gS gP n M X K m : Nat) (pre : List (Place m)) (W : World) : Prop :=
 ∃ (pa : Option Addr) (pc Z : Nat), Boxed W gS 209 (.func (.func 180) #[] #[]) ∧ Boxed W gP 43 (.slice pa n pc) ∧ Reads .u32 W pa n pc (wideN n Z) ∧ Hid (∀ ad, pa = some ad → ad.block ≠ gP) ∧ Hid (Z < M ∧ (pre.map (·.1) = falls m pre.length → Z = X ^ (K / 2 ^ (m - pre.length)) * radix n % M))
theorem powI_own (gS gP n M X K m : Nat) : Own (PowI gS gP n M X K m) := fun s A B row hs hg hr => by
 obtain ⟨pa, pc, Z, h1, h2, h3, h4, h5⟩ := hs
 exact ⟨pa, pc, Z, Boxed.keptCells h1 hg hr, Boxed.keptCells h2 hg hr, Reads.keptCells h3 hg hr, h4, h5⟩
theorem below_keeps {W W' : World} (h : Below W.heap.size W W') : KeepsOthers W W' := ⟨h.size, fun k o hk _ => (h.block k (Array.getElem?_eq_some_iff.1 hk).1).trans hk⟩
theorem pow_zero_bits {K m : Nat} (h : m = bitsN K) : K / 2 ^ m = 0 := Nat.div_eq_of_lt ((bitsN_le K m).1 (by omega))
theorem pow_step0 {X K M n j : Nat} (hM : 2 ≤ M) (ho : M % 2 = 1) (hb : K.testBit j = false) : monN n M (X ^ (K / 2 ^ (j + 1)) * radix n % M * (X ^ (K / 2 ^ (j + 1)) * radix n % M)) = X ^ (K / 2 ^ j) * radix n % M := by
 rw [monN_both hM ho, ← Nat.pow_add]
 have h : K / 2 ^ j = K / 2 ^ (j + 1) + K / 2 ^ (j + 1) := by
  rw [Nat.testBit_eq_decide_div_mod_eq] at hb
  have hb2 := of_decide_eq_false hb
  rw [Nat.pow_succ, ← Nat.div_div_eq_div_mul]
  omega
 rw [h]
theorem pow_step1 {X K M n j : Nat} (hM : 2 ≤ M) (ho : M % 2 = 1) (hb : K.testBit j = true) : monN n M (monN n M (X ^ (K / 2 ^ (j + 1)) * radix n % M * (X ^ (K / 2 ^ (j + 1)) * radix n % M)) * (X * radix n % M)) = X ^ (K / 2 ^ j) * radix n % M := by
 rw [monN_both hM ho, monN_both hM ho, ← Nat.pow_add]
 have h : K / 2 ^ j = K / 2 ^ (j + 1) + K / 2 ^ (j + 1) + 1 := by
  rw [Nat.testBit_eq_decide_div_mod_eq] at hb
  have hb2 := of_decide_eq_true hb
  rw [Nat.pow_succ, ← Nat.div_div_eq_div_mul]
  omega
 rw [h, show X ^ (K / 2 ^ (j + 1) + K / 2 ^ (j + 1) + 1) = X ^ (K / 2 ^ (j + 1) + K / 2 ^ (j + 1)) * X from Nat.pow_succ ..]
set_option maxRecDepth 100000 in
set_option maxHeartbeats 4000000 in
theorem Power_main (p x kv : Value) (n M X K : Nat) (w : World) (hW : Whl w p n M) (hx : NatAt w x X) (hk : NatAt w kv K) (hX : X < topN) (hK : K < topN) :
  Calls Tryz.prog 139 #[p, x, kv] w fun e w' => RetsQ2 .u32 71 w.heap.size w' (nat32 (X ^ K % M), 0) e ∧ Below w.heap.size w w' := by
 obtain ⟨hn1, hn2, hMR, hMT, h3, hod⟩ := hW.val
 have HMR := zH hMR
 have HMN := zH (Nat.lt_of_lt_of_le hMT topM_le)
 have H3 := zH h3
 have HOD := zH hod
 obtain ⟨g, a, c, k, a1, c1, a2, c2, rfl, hC⟩ := hW
 have hb0 := (Below.refl w.heap.size w).alloc (Nat.le_refl _) (.cells #[.pointer (some ⟨g, 0, none⟩)] 155)
 have HC0 := zH (hC.below hb0)
 have NX := zH (hx.below hb0)
 have NK := zH (hk.below hb0)
 have HX := zH hX
 have HK := zH hK
 have F := zH hb0
 have bW := zH (Boxed.new w 155 (.pointer (some ⟨g, 0, none⟩)))
 have cW := bW.out.cell
 have hg0 := zH hC.lt
 clear hC hx hk hX hK hb0 hMR hMT h3 hod
 refine (callsIn_wide (n := 3)).1 ?_
 refine callsIn_of_wp_marks Tryz.func139 rfl trivial ?_ rfl
 simp only [Tryz.ntmps139, List.size_toArray, List.length_cons, List.length_nil, Nat.reduceAdd, Nat.reduceSub, Array.replicate_succ, Array.replicate_zero, List.push_toArray, List.append_toArray, List.nil_append, List.cons_append]
 refine wpIn_wide.2 ?_
 go_wp2_with fail
 refine wp_scope_straight ?_
 go_wp2_with fail
 generalize w.alloc (.cells #[.pointer (some ⟨g, 0, none⟩)] 155) = w0 at *
 refine (made_any _ n M _ ⟨_, _, _, _, _, _, _, _, rfl, HC0.out⟩).mono ?_
 rintro e wz ⟨rfl, rfl⟩
 go_wp2_with fail
 refine (in_any _ _ n M X _ ⟨_, _, _, _, _, _, _, _, rfl, HC0.out⟩ NX.out HX.out).mono ?_
 rintro e w1 ⟨⟨v1, rfl, ho⟩, hb⟩
 have bW1 := zH (boxed_below bW.out hb)
 obtain ⟨xa, xn, xc, rfl, -, ho⟩ := ho.slice
 have F1 := zH (F.out.trans (hb.mono F.out.size))
 have B1 := zH (ho.mono F.out.size)
 have HC1 := zH (HC0.out.below hb)
 have NK1 := zH (NK.out.below hb)
 clear ho hb cW
 go_wp2_with fail
 have hb2 := (Below.refl w1.heap.size w1).alloc (Nat.le_refl _) (.cells #[.slice xa xn xc] 43)
 have bW2 := zH (boxed_below bW1.out hb2)
 have bB2 := zH (Boxed.new w1 43 (.slice xa xn xc))
 have F2 := zH (F1.out.trans (hb2.mono F1.out.size))
 have B2 := zH (B1.out.below hb2)
 have HC2 := zH (HC1.out.below hb2)
 have NK2 := zH (NK1.out.below hb2)
 have hxb := bB2.out.lt
 clear hb2 B1 HC1 NK1 bW1 F1
 generalize w1.alloc (.cells #[.slice xa xn xc] 43) = w2 at *
 generalize w1.heap.size = gB at *
 refine (trim_ok NK2.out HK.out).mono ?_
 rintro e w3 ⟨⟨v3, rfl, ho⟩, hb⟩
 obtain ⟨ka, kn, kc, rfl, -, ho⟩ := ho.slice
 have bW3 := zH (boxed_below bW2.out hb)
 have bB3 := zH (boxed_below bB2.out hb)
 have F3 := zH (F2.out.trans (hb.mono F2.out.size))
 have B3 := zH (B2.out.below hb)
 have HC3 := zH (HC2.out.below hb)
 have OK3 := zH ho
 have cW := bW3.out.cell
 have c1' := HC3.out.one
 clear ho hb bW2 bB2 B2 HC2 NK2 F2
 have hs1 := zH bW3.out.lt
 have hs1 := zH (show w.heap.size < w3.heap.size from bW3.out.lt)
 have hs2 := zH (show g < w3.heap.size from HC3.out.lt)
 go_upto_region 9 with fail
 go_cut [10, 11] from 33 to 36 (fun s10 s11 wx => ∃ gS gP : Nat, s10 = .pointer (some ⟨gS, 0, none⟩) ∧ s11 = .pointer (some ⟨gP, 0, none⟩) ∧ Hid (Boxed wx gS 209 (.func (.func 180) #[] #[]) ∧ Boxed wx gP 43 (.slice a1 n c1) ∧ gS ≠ gP ∧ w3.heap.size ≤ gS ∧ w3.heap.size ≤ gP ∧ Below w3.heap.size w3 wx))
 case first =>
  have e0 := (((Below.refl w3.heap.size w3).alloc (by simp) (.cells #[.nilFunc] 209)).cell (p := ⟨w.heap.size, 0, none⟩) hs1.out).trans cW
  have d0 := (((Below.refl w3.heap.size w3).alloc (by simp) (.cells #[.nilFunc] 209)).cell (p := ⟨g, 2, none⟩) hs2.out).trans c1'
  have e1 := (((Below.refl w3.heap.size w3).alloc (by simp) (.cells #[(.func (.func 180) #[] #[])] 209)).cell (p := ⟨w.heap.size, 0, none⟩) hs1.out).trans cW
  have d1 := (((Below.refl w3.heap.size w3).alloc (by simp) (.cells #[(.func (.func 180) #[] #[])] 209)).cell (p := ⟨g, 2, none⟩) hs2.out).trans c1'
  have e2 := (((Below.refl w3.heap.size w3).alloc (by simp) (.cells #[.slice none 0 0] 43)).cell (p := ⟨w.heap.size, 0, none⟩) hs1.out).trans cW
  have d2 := (((Below.refl w3.heap.size w3).alloc (by simp) (.cells #[.slice none 0 0] 43)).cell (p := ⟨g, 2, none⟩) hs2.out).trans c1'
  have e3 := ((((Below.refl w3.heap.size w3).alloc (by simp) (.cells #[.nilFunc] 209)).alloc (by simp) (.cells #[.slice none 0 0] 43)).cell (p := ⟨w.heap.size, 0, none⟩) hs1.out).trans cW
  have d3 := ((((Below.refl w3.heap.size w3).alloc (by simp) (.cells #[.nilFunc] 209)).alloc (by simp) (.cells #[.slice none 0 0] 43)).cell (p := ⟨g, 2, none⟩) hs2.out).trans c1'
  have e4 := ((((Below.refl w3.heap.size w3).alloc (by simp) (.cells #[(.func (.func 180) #[] #[])] 209)).alloc (by simp) (.cells #[.slice none 0 0] 43)).cell (p := ⟨w.heap.size, 0, none⟩) hs1.out).trans cW
  have d4 := ((((Below.refl w3.heap.size w3).alloc (by simp) (.cells #[(.func (.func 180) #[] #[])] 209)).alloc (by simp) (.cells #[.slice none 0 0] 43)).cell (p := ⟨g, 2, none⟩) hs2.out).trans c1'
  have e5 := ((((Below.refl w3.heap.size w3).alloc (by simp) (.cells #[.slice none 0 0] 43)).alloc (by simp) (.cells #[.nilFunc] 209)).cell (p := ⟨w.heap.size, 0, none⟩) hs1.out).trans cW
  have d5 := ((((Below.refl w3.heap.size w3).alloc (by simp) (.cells #[.slice none 0 0] 43)).alloc (by simp) (.cells #[.nilFunc] 209)).cell (p := ⟨g, 2, none⟩) hs2.out).trans c1'
  have e6 := ((((Below.refl w3.heap.size w3).alloc (by simp) (.cells #[.slice none 0 0] 43)).alloc (by simp) (.cells #[(.func (.func 180) #[] #[])] 209)).cell (p := ⟨w.heap.size, 0, none⟩) hs1.out).trans cW
  have d6 := ((((Below.refl w3.heap.size w3).alloc (by simp) (.cells #[.slice none 0 0] 43)).alloc (by simp) (.cells #[(.func (.func 180) #[] #[])] 209)).cell (p := ⟨g, 2, none⟩) hs2.out).trans c1'
  go_region
  all_goals
   go_wp2_with fail
   go_meet
   first
    | exact ⟨_, _, rfl, rfl, pairA w3 _ _ _ _⟩
    | exact ⟨_, _, rfl, rfl, pairB w3 _ _ _ _⟩
 case rest =>
  obtain ⟨gS, gP, rfl, rfl, hcb⟩ := hcut
  have HLW := zH hs1.out
  have HLB := zH bB3.out.lt
  have HCWX := zH cW
  clear cW c1'
  obtain ⟨hbS, hbP, hSP, hS3, hP3, hBc⟩ := hcb.out
  have hm2 : bitsN K ≤ 8192 := (bitsN_le K 8192).2 (by rw [← topN_two]; exact HK.out)
  obtain ⟨m, hm⟩ : ∃ m, m = bitsN K := ⟨_, rfl⟩
  rw [← hm] at hm2
  have hkn := (own_short (k := 256) OK3.out).2 HK.out
  have hR1 := zH (Nat.mod_lt (radix n) (show 0 < M by have := H3.out; omega))
  have hXR := zH (Nat.mod_lt (X * radix n) (show 0 < M by have := H3.out; omega))
  have hne1 := zH (show ∀ ad, a1 = some ad → ad.block ≠ gP from fun ad e => by
   obtain ⟨bb, oo, he, hbl, -⟩ := HC3.out.r1.cells (by omega)
   rw [he] at e
   cases e
   show bb ≠ gP
   omega)
  go_wp2_with fail
  refine (wpIn_wide (n := 3)).1 ?_
  refine wpIn_label ?_
  gi_wp2_with fail
  refine (wpIn_wide (n := 3)).1 ?_
  gi_wp2_with (refine ⟨trivial, ?_⟩; gi_at_call 181; refine (callsIn_wide.2 (fallingB_any _ _ _ _)).mono ?_; rintro e w' ⟨rfl, rfl⟩)
  have bK := Boxed.new wc 44 (.slice ka kn kc)
  have bS1 := hbS.alloc (.cells #[.slice ka kn kc] 44)
  have bP1 := hbP.alloc (.cells #[.slice ka kn kc] 44)
  have hB1 := hBc.alloc hBc.size (.cells #[.slice ka kn kc] 44)
  have hKP : wc.heap.size ≠ gP := by have := hbP.lt; omega
  obtain ⟨W1, hW1⟩ : ∃ W1, wc.alloc (.cells #[.slice ka kn kc] 44) = W1 := ⟨_, rfl⟩
  rw [hW1] at bK bS1 bP1 hB1 ⊢
  have hs1 := hB1.size
  clear hW1 hcb hbS hbP hBc
  generalize wc.heap.size = gK at *
  have h1 : 1 ≤ 3 := by decide
  have HM := zH hm
  refine wpIn_rangeFunc_ownF (F := Fence.wide) rfl h1 (gf := 199) (lb := #[.pointer (some ⟨gK, 0, none⟩)]) rfl trivial (enters_of Tryz.func199 (by kernel_rfl) rfl)
   (bits_stops (3 - 1) (by decide) w3.heap.size gK m K (fun i => K.testBit i) ka kn kc (nat32 K) W1 bK (OK3.out.reads.below hB1) (natB_digit (by decide) K) (natB_val (by decide) K) (fun _ ad e => by subst e; exact (World.ownsRow.lt OK3.out ad.block rfl).2) (by omega) hkn hm hm2 (fun _ => rfl)) kpB_t (kpB_b (by omega)) (Below.refl _ _) (fun _ => rfl)
   (fun pre W => PowI gS gP n M X K m pre W ∧ Below w3.heap.size w3 W) (fun _ _ _ => False)
   (OwnFrom.and (Own.from (powI_own _ _ _ _ _ _ _) _) (ownFrom_below (Nat.le_refl _) (by omega))) (fun _ _ _ _ _ hs _ _ => hs)
   ⟨⟨a1, c1, radix n % M, bS1, bP1, HC3.out.r1.below hB1, hne1.out, hR1.out, fun _ => by rw [List.length_nil, Nat.sub_zero, pow_zero_bits hm, Nat.pow_zero, Nat.one_mul]⟩, hB1⟩ ?_ ?_ ?_ ?_ ?_
  rotate_left 1
  ·intro lp x W K hK
   gi_wp2
   exact hK
  ·rintro lp pre x W ⟨⟨pa, pc, Z, bS, bP, hr, hne, hI⟩, hB⟩ hlt
   obtain ⟨j, hjm⟩ := x
   have cS := bS.cell
   have cP := bP.cell
   have hWs := hB.size
   have cW2 := (hB.cell (p := ⟨w.heap.size, 0, none⟩) HLW.out).trans HCWX.out
   have HCW := zH (HC3.out.below hB)
   have HSQ := zH (squared_w (x := .slice pa n pc) ⟨_, _, _, _, _, _, _, _, rfl, HCW.out⟩ ⟨pa, pc, rfl, hr, Nat.lt_trans hI.out.1 HMR.out⟩ hI.out.1)
   have hM0 : 0 < M := by have := H3.out; omega
   have hM2 : 2 ≤ M := by have := H3.out; omega
   have HZ := zH (show monN n M (Z * Z) < M from monN_lt hM0)
   have hPW := bP.lt
   have hSW := bS.lt
   have HB := zH hB
   have BS := zH bS
   have BP := zH bP
   have HM0 := zH hM0
   have HM2 := zH hM2
   have HFX := zH (fun (hf : (pre ++ [(⟨j, hjm⟩ : Place m)]).map (·.1) = falls m (pre ++ [(⟨j, hjm⟩ : Place m)]).length) => (show Z = X ^ (K / 2 ^ (j + 1)) * radix n % M ∧ m - (pre ++ [(⟨j, hjm⟩ : Place m)]).length = j by
    obtain ⟨hf1, hf2⟩ := falls_prefix hf
    replace hf2 : j = m - 1 - pre.length := hf2
    have h := hI.out.2 hf1
    rw [show m - pre.length = j + 1 by omega] at h
    exact ⟨h, by simp; omega⟩))
   clear hr hB bS bP hM0 hM2
   gi_wp2_with fail
   refine ⟨trivial, ?_⟩
   refine (CallsIn.inRound lp (callsIn_wide.2 HSQ.out)).mono ?_
   rintro e w5 ⟨⟨v5, rfl, ho⟩, hb⟩
   obtain ⟨qa, qn, qc, rfl, hqn, ho⟩ := ho.slice
   obtain rfl : qn = n := hqn.trans (wideN_len (Nat.lt_trans HZ.out HMR.out))
   have bP5 := boxed_below BP.out hb
   have bS5 := boxed_below BS.out hb
   have cP5 := bP5.cell
   have fP5 := bP5.frozen
   have HB5 := zH ((HB.out.trans (hb.mono hWs)).setCell (p := ⟨gP, 0, none⟩) hP3 (.slice qa qn qc))
   have hoff := zH (show (Value.slice qa qn qc).ownBlock ≠ some gP from fun e => by have := (World.ownsRow.lt ho gP e).1; omega)
   have HO5 := zH (ho.setOther hoff.out (.slice qa qn qc))
   have BP5 := zH (bP5.set (.slice qa qn qc))
   have BS5 := zH (boxed_other bS5 ⟨gP, 0, none⟩ (.slice qa qn qc) hSP)
   have HK5 := zH ((below_keeps hb).trans (KeepsOthers.setCell w5 ⟨gP, 0, none⟩ (.slice qa qn qc)))
   have HKB5 : Hid (KpB w3.heap.size gK W (w5.setCell ⟨gP, 0, none⟩ (.slice qa qn qc))) := zH ⟨(hb.mono hWs).setCell (p := ⟨gP, 0, none⟩) hP3 _, fun t v h => boxed_other (boxed_below h hb) ⟨gP, 0, none⟩ _ hKP⟩
   have HQN := zH (show ∀ ad, qa = some ad → ad.block ≠ gP from fun ad e => by
    subst e
    intro e2
    exact hoff.out (by rw [← e2]; rfl))
   have HSZ := zH hb.size
   clear cS cP cW2 bP5 bS5 hb ho hqn
   rcases hbit : K.testBit j with _ | _
   ·have HBIT := zH hbit
    gi_wp2
    exact ⟨HK5.out, HKB5.out, ⟨qa, qc, _, BS5.out, BP5.out, HO5.out.reads, HQN.out, HZ.out, fun hf => by
     obtain ⟨hz, hj⟩ := HFX.out hf
     rw [hj, hz]
     exact pow_step0 HM2.out HOD.out HBIT.out⟩, HB5.out⟩
   ·have HBIT := zH hbit
    obtain ⟨W5, hW5⟩ : ∃ W5, W5 = w5.setCell ⟨gP, 0, none⟩ (.slice qa qn qc) := ⟨_, rfl⟩
    have HSZ5 := zH (show W.heap.size ≤ W5.heap.size by rw [hW5]; exact HK5.out.size)
    have cP6 := BP5.out.cell
    have cW6 := (HB5.out.cell (p := ⟨w.heap.size, 0, none⟩) HLW.out).trans HCWX.out
    have bB6 := (HB5.out.block gB HLB.out).trans bB3.out
    have cB6 := Boxed.cell bB6
    have hx1 : xn = qn := B3.out.cap.1.trans (wideN_len (Nat.lt_trans hXR.out HMR.out))
    subst hx1
    have HTM := zH (times_w (p := .pointer (some ⟨g, 0, none⟩)) (x := .slice qa xn qc) (y := .slice xa xn xc) ⟨_, _, _, _, _, _, _, _, rfl, HC3.out.below HB5.out⟩ (WideAt.of HO5.out (Nat.lt_trans HZ.out HMR.out)) (WideAt.of (B3.out.below HB5.out) (Nat.lt_trans hXR.out HMR.out)) HZ.out)
    have HZ2 := zH (show monN xn M (monN xn M (Z * Z) * (X * radix xn % M)) < M from monN_lt HM0.out)
    have hP6 := BP5.out.lt
    clear hbit
    gi_wp2_with fail
    rw [← hW5] at HB5 BP5 BS5 HO5 HK5 HKB5 HTM ⊢
    refine ⟨trivial, ?_⟩
    refine (CallsIn.inRound lp (callsIn_wide.2 HTM.out)).mono ?_
    rintro e w7 ⟨⟨v7, rfl, ho⟩, hb⟩
    obtain ⟨ra, rn, rc, rfl, hrn, ho⟩ := ho.slice
    obtain rfl : rn = xn := hrn.trans (wideN_len (Nat.lt_trans HZ2.out HMR.out))
    have hB5s := HB5.out.size
    have bP7 := boxed_below BP5.out hb
    have bS7 := boxed_below BS5.out hb
    have cP7 := bP7.cell
    have fP7 := bP7.frozen
    have hP7 : gP < W5.heap.size := BP5.out.lt
    have HB7 := zH ((HB5.out.trans (hb.mono hB5s)).setCell (p := ⟨gP, 0, none⟩) hP3 (.slice ra rn rc))
    have hoff7 := zH (show (Value.slice ra rn rc).ownBlock ≠ some gP from fun e => by have := (World.ownsRow.lt ho gP e).1; omega)
    have HO7 := zH (ho.setOther hoff7.out (.slice ra rn rc))
    have BP7 := zH (bP7.set (.slice ra rn rc))
    have BS7 := zH (boxed_other bS7 ⟨gP, 0, none⟩ (.slice ra rn rc) hSP)
    have HK7 := zH (HK5.out.trans ((below_keeps hb).trans (KeepsOthers.setCell w7 ⟨gP, 0, none⟩ (.slice ra rn rc))))
    have HKB7 : Hid (KpB w3.heap.size gK W (w7.setCell ⟨gP, 0, none⟩ (.slice ra rn rc))) := zH (kpB_t HKB5.out ⟨(hb.mono hB5s).setCell (p := ⟨gP, 0, none⟩) hP3 _, fun t v h => boxed_other (boxed_below h hb) ⟨gP, 0, none⟩ _ hKP⟩)
    have HQN7 := zH (show ∀ ad, ra = some ad → ad.block ≠ gP from fun ad e => by
     subst e
     intro e2
     exact hoff7.out (by rw [← e2]; rfl))
    clear bP7 bS7 hb ho hrn cP6 cW6 cB6 hW5
    gi_wp2
    exact ⟨HK7.out, HKB7.out, ⟨ra, rc, _, BS7.out, BP7.out, HO7.out.reads, HQN7.out, HZ2.out, fun hf => by
     obtain ⟨hz, hj⟩ := HFX.out hf
     rw [hj, hz]
     exact pow_step1 HM2.out HOD.out HBIT.out⟩, HB7.out⟩
  ·rintro D xs W hD hxs ⟨⟨pa, pc, Z, bS, bP, hr, hne, hI⟩, hB⟩ hK
   have hxl : xs.length = m := by
    have := congrArg List.length hxs
    rwa [falls_length, List.length_map] at this
   have hz := hI.out.2 (by rw [hxl]; exact hxs)
   rw [hxl, Nat.sub_self, Nat.pow_zero, Nat.div_one] at hz
   have HRES := zH (show monN n M Z = X ^ K % M by rw [hz, monN_mod, monN_in (by have := H3.out; omega) HOD.out])
   have cP := bP.cell
   have hWs := hB.size
   have cW2 := (hB.cell (p := ⟨w.heap.size, 0, none⟩) HLW.out).trans HCWX.out
   have HOUT := zH (out_any (.pointer (some ⟨g, 0, none⟩)) (.slice pa n pc) n M Z W ⟨_, _, _, _, _, _, _, _, rfl, HC3.out.below hB⟩ ⟨pa, pc, rfl, hr, Nat.lt_trans hI.out.1 HMR.out⟩ hI.out.1)
   have HB := zH hB
   have HK := zH hK
   clear hr hB bS bP hxs hz
   gi_wp2_with fail
   refine ⟨trivial, ?_⟩
   refine (callsIn_wide.2 HOUT.out).mono ?_
   rintro e w5 ⟨⟨v5, rfl, ho⟩, hb⟩
   rw [HRES.out] at ho
   obtain ⟨qa, qn, qc, rfl, hqn, ho⟩ := ho.slice
   have O5 := zH (ho.mono (Nat.le_trans F3.out.size hWs))
   have F5 := zH (F3.out.trans ((HB.out.trans (hb.mono hWs)).mono F3.out.size))
   have HK5 := zH ((hb.block D (Array.getElem?_eq_some_iff.1 HK.out).1).trans HK.out)
   have hDw : w.heap.size ≤ D := by have := F3.out.size; omega
   clear ho hb hqn
   gi_wp2
   rw [Exit.noGoto_ret]
   refine ⟨by simp, .inl ⟨_, _, rfl, run_takeDeferred HK5.out, ?_⟩⟩
   refine ⟨_, results_tmp2 rfl _ _ _, ⟨.slice qa qn qc, ?_, ownsRow_putObj O5.out (.deferred none) HK5.out rfl⟩, F5.out.trans (belowK_b (w := w) (Nat.le_refl _) w5 D _ _ hDw HK5.out rfl rfl)⟩
   generalize nat32 (X ^ K % M) = L
   rfl
  ·rintro D c pre W _ _ h _
   exact h.elim
end Go.Proofs.YtpefjkndfifceaaGreatDoor
namespace Go.Proofs.YtpefjkndfifceaaGreatDoor
open Go.RowKit
def powR (M X K : Nat) : List Nat × Int := if X < topN ∧ K < topN then (nat32 (X ^ K % M), 0) else ([], 20)
theorem powR_yes {M X K : Nat} (h : X < topN) (k : K < topN) : powR M X K = (nat32 (X ^ K % M), 0) := if_pos ⟨h, k⟩
theorem powR_no {M X K : Nat} (h : ¬ (X < topN ∧ K < topN)) : powR M X K = ([], 20) := if_neg h
set_option maxRecDepth 100000 in
set_option maxHeartbeats 2000000 in
theorem Power_noX (p x kv : Value) (n M X : Nat) (w : World) (hW : Whl w p n M) (hx : NatAt w x X) (hX : ¬ X < topN) :
  Calls Tryz.prog 139 #[p, x, kv] w fun e w' => RetsQ2 .u32 71 w.heap.size w' ([], 20) e ∧ Below w.heap.size w w' := by
 obtain ⟨g, a, c, k, a1, c1, a2, c2, rfl, hC⟩ := hW
 have hb0 := (Below.refl w.heap.size w).alloc (Nat.le_refl _) (.cells #[.pointer (some ⟨g, 0, none⟩)] 155)
 have HC0 := zH (hC.below hb0)
 have NX := zH (hx.below hb0)
 have HX := zH hX
 have F := zH hb0
 have cW := (Boxed.new w 155 (.pointer (some ⟨g, 0, none⟩))).cell
 clear hC hx hX hb0
 go_enter Tryz.func139, Tryz.ntmps139
 go_wp2_with fail
 refine wp_scope_straight ?_
 go_wp2_with fail
 generalize w.alloc (.cells #[.pointer (some ⟨g, 0, none⟩)] 155) = w0 at *
 refine (made_any _ n M _ ⟨_, _, _, _, _, _, _, _, rfl, HC0.out⟩).mono ?_
 rintro e wz ⟨rfl, rfl⟩
 go_wp2_with fail
 refine (in_no _ _ n M X _ ⟨_, _, _, _, _, _, _, _, rfl, HC0.out⟩ NX.out HX.out).mono ?_
 rintro e w1 ⟨rfl, hb⟩
 have F1 := zH ((F.out.trans (hb.mono F.out.size)).alloc (Nat.le_trans F.out.size hb.size) (.cells #[.slice none 0 0] 43))
 clear hb
 go_wp2
 rw [Exit.noGoto_ret]
 go_ret2
 exact ⟨⟨_, rfl, OwnQ.nil _ _ _ _⟩, F1.out⟩
set_option maxRecDepth 100000 in
set_option maxHeartbeats 2000000 in
theorem Power_noK (p x kv : Value) (n M X K : Nat) (w : World) (hW : Whl w p n M) (hx : NatAt w x X) (hk : NatAt w kv K) (hX : X < topN) (hK : ¬ K < topN) :
  Calls Tryz.prog 139 #[p, x, kv] w fun e w' => RetsQ2 .u32 71 w.heap.size w' ([], 20) e ∧ Below w.heap.size w w' := by
 obtain ⟨g, a, c, k, a1, c1, a2, c2, rfl, hC⟩ := hW
 have hb0 := (Below.refl w.heap.size w).alloc (Nat.le_refl _) (.cells #[.pointer (some ⟨g, 0, none⟩)] 155)
 have HC0 := zH (hC.below hb0)
 have NX := zH (hx.below hb0)
 have NK := zH (hk.below hb0)
 have HX := zH hX
 have HK := zH hK
 have F := zH hb0
 have cW := (Boxed.new w 155 (.pointer (some ⟨g, 0, none⟩))).cell
 clear hC hx hX hb0 hk hK
 go_enter Tryz.func139, Tryz.ntmps139
 go_wp2_with fail
 refine wp_scope_straight ?_
 go_wp2_with fail
 generalize w.alloc (.cells #[.pointer (some ⟨g, 0, none⟩)] 155) = w0 at *
 refine (made_any _ n M _ ⟨_, _, _, _, _, _, _, _, rfl, HC0.out⟩).mono ?_
 rintro e wz ⟨rfl, rfl⟩
 go_wp2_with fail
 refine (in_any _ _ n M X _ ⟨_, _, _, _, _, _, _, _, rfl, HC0.out⟩ NX.out HX.out).mono ?_
 rintro e w1 ⟨⟨v1, rfl, ho⟩, hb⟩
 obtain ⟨xa, xn, xc, rfl, -, ho⟩ := ho.slice
 have hb2 := (Below.refl w1.heap.size w1).alloc (Nat.le_refl _) (.cells #[.slice xa xn xc] 43)
 have F1 := zH ((F.out.trans (hb.mono F.out.size)).trans (hb2.mono (Nat.le_trans F.out.size hb.size)))
 have NK1 := zH ((NK.out.below hb).below hb2)
 clear hb hb2 ho
 go_wp2_with fail
 generalize w1.alloc (.cells #[.slice xa xn xc] 43) = w2 at *
 refine (trim_no NK1.out HK.out).mono ?_
 rintro e w3 ⟨⟨v3, rfl⟩, hb⟩
 have F3 := zH (F1.out.trans (hb.mono F1.out.size))
 clear hb
 go_wp2
 rw [Exit.noGoto_ret]
 go_ret2
 exact ⟨⟨_, rfl, OwnQ.nil _ _ _ _⟩, F3.out⟩
theorem Power_any (p x kv : Value) (n M X K : Nat) (w : World) (hW : Whl w p n M) (hx : NatAt w x X) (hk : NatAt w kv K) :
  Calls Tryz.prog 139 #[p, x, kv] w fun e w' => RetsQ2 .u32 71 w.heap.size w' (powR M X K) e ∧ Below w.heap.size w w' := by
 by_cases hX : X < topN
 ·by_cases hK : K < topN
  ·rw [powR_yes hX hK]
   exact Power_main p x kv n M X K w hW hx hk hX hK
  ·rw [powR_no (fun h => hK h.2)]
   exact Power_noK p x kv n M X K w hW hx hk hX hK
 ·rw [powR_no (fun h => hX h.1)]
  exact Power_noX p x kv n M X w hW hx hX
def Mod3 (M : Nat) : Prop := M < topM ∧ 3 ≤ M ∧ M % 2 = 1
set_option maxHeartbeats 1000000 in
theorem mpow_any (x kv m : Value) (X K M : Nat) (w : World) (hx : NatAt w x X) (hk : NatAt w kv K) (hm : NatAt w m M) (hM : Mod3 M) :
  Calls Tryz.prog 107 #[x, kv, m] w fun e w' => RetsQ2 .u32 71 w.heap.size w' (powR M X K) e ∧ Below w.heap.size w w' := by
 have NX := zH hx
 have NK := zH hk
 have NM := zH hm
 have HM := zH hM
 obtain ⟨O, he⟩ : ∃ O, O = powR M X K := ⟨_, rfl⟩
 have HE := zH he
 clear hx hk hm hM he
 go_enter Tryz.func107, Tryz.ntmps107
 go_wp2_with fail
 refine (new_ok m M w NM.out HM.out.1 HM.out.2.1 HM.out.2.2).mono ?_
 rintro e w1 ⟨⟨p, rfl, hp⟩, hb⟩
 have HP := zH hp.whl
 have NX1 := zH (NX.out.below hb)
 have NK1 := zH (NK.out.below hb)
 have B1 := zH hb
 clear hp hb
 have HPW := zH (Power_any p x kv _ M X K w1 HP.out NX1.out NK1.out)
 rw [← HE.out] at HPW
 obtain ⟨L, er⟩ := O
 go_wp2_with fail
 refine HPW.out.mono ?_
 rintro e w2 ⟨⟨v2, rfl, ho⟩, hb⟩
 have O2 := zH (ho.mono B1.out.size)
 have B2 := zH (B1.out.trans (hb.mono B1.out.size))
 clear ho hb
 go_wp2
 go_ret2
 rw [← HE.out]
 exact ⟨⟨_, rfl, O2.out⟩, B2.out⟩
end Go.Proofs.YtpefjkndfifceaaGreatDoor
namespace Go.Proofs.YtpefjkndfifceaaGreatDoor
open Go.RowKit
theorem topM_256 (m : Nat) (h : m = 512) : topM = 256 ^ m := by
 obtain ⟨t, ht⟩ : ∃ t, t = 128 := ⟨_, rfl⟩
 have e : m = 4 * t := by omega
 rw [e, ← pow32, ht]
 rfl
def EuI (A B P k : Nat) : Prop := (k = 0 ∧ A * B ≤ P) ∨ ∃ j, k = j + 1 ∧ B ≤ A ∧ 2 ^ j * (A * B) ≤ P
def NatS (w : World) (v : Value) (n : Nat) : Prop := ∃ a len cap l, v = .slice a len cap ∧ Reads .u32 w a len cap l ∧ Lim l ∧ val32 l = n ∧ len ≤ 1000000000000
theorem NatS.below {w w' : World} {v : Value} {n : Nat} (h : NatS w v n) (hb : Below w.heap.size w w') : NatS w' v n := by
 obtain ⟨a, len, cap, l, hv, hr, hl, hn, hm⟩ := h
 exact ⟨a, len, cap, l, hv, hr.below hb, hl, hn, hm⟩
theorem NatS.of {E B : Nat} {w : World} {v : Value} {n : Nat} (h : OwnQ .u32 E B w v (nat32 n)) (hn : n < topN) : NatS w v n := by
 obtain ⟨a, len, cap, rfl, hl, ho⟩ := h.slice
 have := (own_short (k := 256) ho).2 hn
 exact ⟨a, len, cap, nat32 n, rfl, ho.reads, natB_digit (by decide) _, natB_val (by decide) _, by omega⟩
theorem NatS.one (w : World) (E : TypeId) : NatS (w.alloc (.cells #[.int .u32 1] E)) (.slice (some ⟨w.heap.size, 0, none⟩) 1 1) 1 := ⟨_, 1, 1, [1], rfl, Reads.one .u32 _ _ _ _ rfl, fun x hx => by
 obtain rfl := List.mem_singleton.1 hx
 decide, rfl, by omega⟩
namespace rf
theorem div_s {x y : Value} {X Y : Nat} {w : World} (hx : NatS w x X) (hy : NatS w y Y) : Calls Tryz.prog 95 #[x, y] w fun e w' => RetsD w.heap.size w' (divR X Y) e ∧ Below w.heap.size w w' := by
 obtain ⟨a, n, c, l, rfl, hr, hl, rfl, hm⟩ := hx
 obtain ⟨a', n', c', l', rfl, hr', hl', rfl, hm'⟩ := hy
 exact div_any a a' n c n' c' l l' w hr hr' hl hl' hm hm'
theorem div_ok {x y : Value} {X Y : Nat} {w : World} (hx : NatS w x X) (hy : NatS w y Y) (hX : X < topN) (hY : Y < topN) (h0 : 0 < Y) : Calls Tryz.prog 95 #[x, y] w fun e w' => (∃ v u, e = .returned (.tuple #[v, u, .int .i64 0]) ∧ OwnQ .u32 71 w.heap.size w' v (nat32 (X / Y)) ∧ OwnQ .u32 71 w.heap.size w' u (nat32 (X % Y))) ∧ Below w.heap.size w w' := by
 have := div_s hx hy
 rw [divR_yes ⟨hX, hY⟩ (by omega)] at this
 exact this
theorem may_s {x y : Value} {X Y : Nat} {w : World} (hx : NatS w x X) (hy : NatS w y Y) (r : Bool) (h : r = decide (X < topN ∧ Y < topN)) : Calls Tryz.prog 93 #[x, y] w fun e w' => e = .returned (.bool r) ∧ Below w.heap.size w w' := by
 obtain ⟨a, n, c, l, rfl, hr, hl, rfl, hm⟩ := hx
 obtain ⟨a', n', c', l', rfl, hr', hl', rfl, hm'⟩ := hy
 exact may_any a a' n c n' c' l l' w hr hr' hl hl' hm hm' r h
theorem modulus_s {x : Value} {X : Nat} {w : World} (hx : NatS w x X) (r : Bool) (h : r = decide (X < topM)) : Calls Tryz.prog 94 #[x] w fun e w' => e = .returned (.bool r) ∧ Below w.heap.size w w' := by
 obtain ⟨a, n, c, l, rfl, hr, hl, rfl, hm⟩ := hx
 obtain ⟨m, hm5⟩ : ∃ m, m = 512 := ⟨_, rfl⟩
 rw [topM_256 m hm5] at h
 exact modulus_any a n c l w hr hl hm m hm5 r h
theorem cmp_s {x y : Value} {X Y : Nat} {w : World} (hx : NatS w x X) (hy : NatS w y Y) (r : Int) (h : r = ordR X Y) : Calls Tryz.prog 41 #[x, y] w fun e w' => e = .returned (.int .i64 r) ∧ Below w.heap.size w w' := by
 obtain ⟨a, n, c, l, rfl, hr, hl, rfl, hm⟩ := hx
 obtain ⟨a', n', c', l', rfl, hr', hl', rfl, hm'⟩ := hy
 exact cmp_any a a' n c n' c' l l' w hr hr' hl hl' hm hm' r h
theorem mul_ok {x y : Value} {X Y : Nat} {w : World} (hx : NatS w x X) (hy : NatS w y Y) (hX : X < topN) (hY : Y < topN) (h : X * Y < topN) : Calls Tryz.prog 52 #[x, y] w fun e w' => (∃ v, e = .returned (.tuple #[v, .int .i64 0]) ∧ OwnQ .u32 71 w.heap.size w' v (nat32 (X * Y))) ∧ Below w.heap.size w w' := by
 obtain ⟨a, n, c, l, rfl, hr, hl, rfl, hm⟩ := hx
 obtain ⟨a', n', c', l', rfl, hr', hl', rfl, hm'⟩ := hy
 have := mul_any a a' n c n' c' l l' w hr hr' hl hl' hm hm'
 rw [mulR_yes ⟨hX, hY⟩, cutR_small h] at this
 exact this
theorem sub_ok {x y : Value} {X Y : Nat} {w : World} (hx : NatS w x X) (hy : NatS w y Y) (hX : X < topN) (h : Y ≤ X) : Calls Tryz.prog 53 #[x, y] w fun e w' => (∃ v, e = .returned (.tuple #[v, .int .i64 0]) ∧ OwnQ .u32 71 w.heap.size w' v (nat32 (X - Y))) ∧ Below w.heap.size w w' := by
 obtain ⟨a, n, c, l, rfl, hr, hl, rfl, hm⟩ := hx
 obtain ⟨a', n', c', l', rfl, hr', hl', rfl, hm'⟩ := hy
 have := sub_any a a' n c n' c' l l' w hr hr' hl hl' hm hm'
 rw [show subR (val32 l) (val32 l') = (nat32 (val32 l - val32 l'), 0) from if_pos ⟨hX, Nat.lt_of_le_of_lt h hX, h⟩] at this
 exact this
end rf
end Go.Proofs.YtpefjkndfifceaaGreatDoor
namespace Go.Proofs.YtpefjkndfifceaaGreatDoor
open Go.RowKit
namespace rf
set_option maxRecDepth 100000 in
set_option maxHeartbeats 1000000 in
theorem mulMod_s (x y m : Value) (X Y M : Nat) (w : World) (hx : NatS w x X) (hy : NatS w y Y) (hm : NatS w m M) :
  Calls Tryz.prog 54 #[x, y, m] w fun e w' => RetsQ2 .u32 71 w.heap.size w' (mulModR X Y M) e ∧ Below w.heap.size w w' := by
 have NX := zH hx
 have NY := zH hy
 have NM := zH hm
 clear hx hy hm
 by_cases hXY : X < topN ∧ Y < topN
 ·by_cases hM : M < topM
  ·have HMY := zH (fun r hr => may_s NX.out NY.out r hr)
   have HM := zH hM
   have HX := zH hXY.1
   have HY := zH hXY.2
   have HMN := zH (Nat.lt_of_lt_of_le hM topM_le)
   have hmt := zH (show true = decide (X < topN ∧ Y < topN) from (decide_eq_true hXY).symm)
   have hmo := zH (show true = decide (M < topM) from (decide_eq_true hM).symm)
   clear hXY hM
   rcases Nat.eq_zero_or_pos M with h0 | h0
   ·have hr := zH (show mulModR X Y M = ([], 60) by rw [h0]; exact mulModR_zero HX.out HY.out)
    have hdz := zH (show divR X M = ([], [], 60) by exact divR_zero ⟨HX.out, HMN.out⟩ h0)
    clear h0
    go_enter Tryz.func54, Tryz.ntmps54
    go_wp2_with fail
    refine (HMY.out _ hmt.out).mono ?_
    rintro e w1 ⟨rfl, hb⟩
    have B1 := zH hb
    have NX1 := zH (NX.out.below hb)
    have NM1 := zH (NM.out.below hb)
    clear hb
    go_wp2_with fail
    refine (modulus_s NM1.out true hmo.out).mono ?_
    rintro e w2 ⟨rfl, hb⟩
    have B2 := zH (B1.out.trans (hb.mono B1.out.size))
    have NX2 := zH (NX1.out.below hb)
    have NM2 := zH (NM1.out.below hb)
    clear hb
    go_wp2_with fail
    refine (div_s NX2.out NM2.out).mono ?_
    rintro e w3 ⟨hr3, hb⟩
    rw [hdz.out] at hr3
    obtain ⟨v3, u3, rfl, -, -⟩ := hr3
    have B3 := zH (B2.out.trans (hb.mono B2.out.size))
    clear hb
    go_wp2_with fail
    go_ret2
    exact ⟨⟨_, by rw [hr.out]; rfl, by rw [hr.out]; exact OwnQ.nil _ _ _ _⟩, B3.out⟩
   ·have hr := zH (mulModR_yes (x := X) (y := Y) HM.out HX.out HY.out h0)
    have H0 := zH h0
    have hx2 := zH (Nat.lt_trans (Nat.mod_lt X h0) HMN.out)
    have hy2 := zH (Nat.lt_trans (Nat.mod_lt Y h0) HMN.out)
    have hp := zH (show X % M * (Y % M) < topN by
     rw [← topM_sq]
     exact Nat.mul_lt_mul'' (Nat.lt_trans (Nat.mod_lt X h0) HM.out) (Nat.lt_trans (Nat.mod_lt Y h0) HM.out))
    clear h0
    go_enter Tryz.func54, Tryz.ntmps54
    go_wp2_with fail
    refine (HMY.out _ hmt.out).mono ?_
    rintro e w1 ⟨rfl, hb⟩
    have B1 := zH hb
    have NX1 := zH (NX.out.below hb)
    have NY1 := zH (NY.out.below hb)
    have NM1 := zH (NM.out.below hb)
    clear hb
    go_wp2_with fail
    refine (modulus_s NM1.out true hmo.out).mono ?_
    rintro e w2 ⟨rfl, hb⟩
    have B2 := zH (B1.out.trans (hb.mono B1.out.size))
    have NX2 := zH (NX1.out.below hb)
    have NY2 := zH (NY1.out.below hb)
    have NM2 := zH (NM1.out.below hb)
    clear hb
    go_wp2_with fail
    refine (div_ok NX2.out NM2.out HX.out HMN.out H0.out).mono ?_
    rintro e w3 ⟨⟨v3, u3, rfl, -, ho⟩, hb⟩
    have O3 := zH ho
    have NY3 := zH (NY2.out.below hb)
    have NM3 := zH (NM2.out.below hb)
    have B3 := zH (B2.out.trans (hb.mono B2.out.size))
    clear hb ho
    go_wp2_with fail
    refine (div_ok NY3.out NM3.out HY.out HMN.out H0.out).mono ?_
    rintro e w4 ⟨⟨v4, u4, rfl, -, ho⟩, hb⟩
    have O4 := zH (NatS.of ho hy2.out)
    have O34 := zH (NatS.of (O3.out.below hb) hx2.out)
    have NM4 := zH (NM3.out.below hb)
    have B4 := zH (B3.out.trans (hb.mono B3.out.size))
    clear hb ho
    go_wp2_with fail
    refine (mul_ok O34.out O4.out hx2.out hy2.out hp.out).mono ?_
    rintro e w5 ⟨⟨v5, rfl, ho⟩, hb⟩
    have O5 := zH (NatS.of ho hp.out)
    have NM5 := zH (NM4.out.below hb)
    have B5 := zH (B4.out.trans (hb.mono B4.out.size))
    clear hb ho
    go_wp2_with fail
    refine (div_ok O5.out NM5.out hp.out HMN.out H0.out).mono ?_
    rintro e w6 ⟨⟨v6, u6, rfl, -, ho⟩, hb⟩
    rw [← Nat.mul_mod] at ho
    have O6 := zH (ho.mono B5.out.size)
    have B6 := zH (B5.out.trans (hb.mono B5.out.size))
    clear hb ho
    go_wp2_with fail
    go_ret2
    exact ⟨⟨_, by rw [hr.out]; rfl, by rw [hr.out]; exact O6.out⟩, B6.out⟩
  ·have hr := zH (mulModR_no (x := X) (y := Y) (m := M) (fun h => hM h.1))
   have hmt := zH (show true = decide (X < topN ∧ Y < topN) from (decide_eq_true hXY).symm)
   have hmo := zH (show false = decide (M < topM) from (decide_eq_false hM).symm)
   clear hXY hM
   go_enter Tryz.func54, Tryz.ntmps54
   go_wp2_with fail
   refine (may_s NX.out NY.out _ hmt.out).mono ?_
   rintro e w1 ⟨rfl, hb⟩
   have B1 := zH hb
   have NM1 := zH (NM.out.below hb)
   clear hb
   go_wp2_with fail
   refine (modulus_s NM1.out _ hmo.out).mono ?_
   rintro e w2 ⟨rfl, hb⟩
   have B2 := zH (B1.out.trans (hb.mono B1.out.size))
   clear hb
   go_wp2_with fail
   go_ret2
   exact ⟨⟨_, by rw [hr.out]; rfl, by rw [hr.out]; exact OwnQ.nil _ _ _ _⟩, B2.out⟩
 ·have hr := zH (mulModR_no (x := X) (y := Y) (m := M) (fun h => hXY h.2))
  have hmt := zH (show false = decide (X < topN ∧ Y < topN) from (decide_eq_false hXY).symm)
  clear hXY
  obtain ⟨r, hmo⟩ : ∃ r, r = decide (M < topM) := ⟨_, rfl⟩
  have hmo := zH hmo
  go_enter Tryz.func54, Tryz.ntmps54
  go_wp2_with fail
  refine (may_s NX.out NY.out _ hmt.out).mono ?_
  rintro e w1 ⟨rfl, hb⟩
  have B1 := zH hb
  have NM1 := zH (NM.out.below hb)
  clear hb
  go_wp2_with fail
  refine (modulus_s NM1.out _ hmo.out).mono ?_
  rintro e w2 ⟨rfl, hb⟩
  have B2 := zH (B1.out.trans (hb.mono B1.out.size))
  clear hb
  go_wp2_with fail
  go_ret2
  exact ⟨⟨_, by rw [hr.out]; rfl, by rw [hr.out]; exact OwnQ.nil _ _ _ _⟩, B2.out⟩
end rf
end Go.Proofs.YtpefjkndfifceaaGreatDoor
namespace Go.Proofs.YtpefjkndfifceaaGreatDoor
open Go.RowKit
namespace rf
end rf
end Go.Proofs.YtpefjkndfifceaaGreatDoor
namespace Go.Proofs.YtpefjkndfifceaaGreatDoor
open Go.RowKit
namespace rf
structure RInv (M X A B S T : Nat) : Prop where
 gcd : Nat.gcd A B = Nat.gcd M X
 pos : 0 < A
 le : A ≤ M
 lt : B < M
 s : S < M
 t : T < M
 elder : (M : Int) ∣ (A : Int) - S * X
 rest : (M : Int) ∣ (B : Int) - T * X
end rf
end Go.Proofs.YtpefjkndfifceaaGreatDoor
namespace Go.Proofs.YtpefjkndfifceaaGreatDoor
open Go.RowKit
namespace rf
end rf
end Go.Proofs.YtpefjkndfifceaaGreatDoor
