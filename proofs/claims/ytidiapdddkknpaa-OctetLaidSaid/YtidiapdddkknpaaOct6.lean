/-
  WALKS OF OCTET's Cmp AND Xor, AND OF THE REFERENCE's.
-/
import Derived.Test.YtidiapdddkknpaaOct5
import Derived.Lib.Bytealg
import Derived.Laws.Externs
import Derived.WalkSmall
namespace Go.Proofs.Ytidiapdddkknpaa
open Go.RowKit

theorem run_loadBytes {P : Program} {w : World} (b off len cap : Nat) (l : List UInt8) (h : Bts w (some ⟨b, off, none⟩) len cap l) :
    ∀ (n k : Nat) (acc : ByteArray), k + n = len → (Extern.Bytes.loadBytes ⟨b, off + k, none⟩ n acc).run P w = .ok ⟨acc.data ++ (l.drop k).toArray⟩ w
  | 0, k, acc, hk => by
    rw [List.drop_eq_nil_of_le (by have := h.length; omega)]
    simp [Extern.Bytes.loadBytes, Sem.run_pure]
  | n + 1, k, acc, hk => by
    obtain ⟨b', off', he, hlt, hc⟩ := h.cells (by omega)
    cases he
    have hck := hc k (by omega)
    have hl : k < l.length := by have := h.length; omega
    have e : (⟨b, off + k, none⟩ : Addr).add 1 = ⟨b, off + (k + 1), none⟩ := by unfold Addr.add; split <;> simp_all <;> omega
    have ih := run_loadBytes (P := P) b off len cap l h n (k + 1) (acc.push l[k]) (by omega)
    have hb : ((l[k].toNat : Int)).toNat.toUInt8 = l[k] := by simp
    simp only [Extern.Bytes.loadBytes, Sem.run_bind]
    rw [List.getElem?_eq_getElem hl] at hck
    simp only [Option.getD_some] at hck
    have hrun : (load ⟨b, off + k, none⟩).run P w = .ok (.int .u8 (l[k].toNat : Int)) w := by simp [go_sem, hck]
    rw [hrun]
    simp only [Result.andThen, e, hb, ih]
    rw [List.drop_eq_getElem_cons hl]
    simp [ByteArray.push]

theorem run_bytesOf {P : Program} {w : World} {a : Option Addr} {len cap : Nat} {l : List UInt8} (h : Bts w a len cap l) : (Extern.Bytes.bytesOf (.slice a len cap)).run P w = .ok (strOf l) w := by
  by_cases hp : 0 < len
  · obtain ⟨b, off, rfl, _, _⟩ := h.cells hp
    have := run_loadBytes (P := P) b off len cap l h len 0 .empty (by omega)
    simpa [Extern.Bytes.bytesOf, strOf] using this
  · obtain rfl : len = 0 := by omega
    obtain rfl : l = [] := List.eq_nil_of_length_eq_zero h.length
    cases a with
    | none => rfl
    | some a => rfl

theorem run_compare {P : Program} {w : World} {a1 a2 : Option Addr} {n1 c1 n2 c2 : Nat} {l1 l2 : List UInt8} (h1 : Bts w a1 n1 c1 l1) (h2 : Bts w a2 n2 c2 l2) :
    (Extern.BytealgCompare.compare #[.slice a1 n1 c1, .slice a2 n2 c2]).run P w = .ok (.int .i64 (Lib.compareBytes l1 l2)) w := by
  change Sem.run P (do pure (goInt (Extern.BytealgCompare.cmp (← Extern.Bytes.bytesOf (.slice a1 n1 c1)) (← Extern.Bytes.bytesOf (.slice a2 n2 c2))))) w = _
  simp only [Sem.run_bind, run_bytesOf h1, run_bytesOf h2, Sem.run_pure, Result.andThen, Lib.cmp_eq]
  rfl

set_option maxHeartbeats 400000 in
theorem cmp_any (a1 a2 : Option Addr) (n1 c1 n2 c2 : Nat) (l1 l2 : List UInt8) (w : World) (h1 : Bts w a1 n1 c1 l1) (h2 : Bts w a2 n2 c2 l2) :
    Calls Try.prog 31 #[.slice a1 n1 c1, .slice a2 n2 c2] w fun e w' => e = .returned (.int .i64 (Lib.compareBytes l1 l2)) ∧ w = w' := by
  have hx : (callFunc 42 #[.slice a1 n1 c1, .slice a2 n2 c2]).run Try.prog w = .ok (.value (.int .i64 (Lib.compareBytes l1 l2))) w := by
    rw [run_callFunc_extern Try.func42 (by kernel_rfl) (by kernel_rfl) (by kernel_rfl) (e := Extern.BytealgCompare.compare) (by kernel_rfl), run_compare h1 h2]
    rfl
  generalize Lib.compareBytes l1 l2 = r at *
  clear h1 h2
  go_enter Try.func31, Try.ntmps31
  go_wp2
  go_ret
  exact ⟨rfl, rfl⟩

theorem compare_step : ∀ (k : Nat) (a b : List UInt8), k < a.length → k < b.length → a.take k = b.take k → Lib.compareBytes a b = if (a[k]?.getD 0).toNat < (b[k]?.getD 0).toNat then -1 else if (b[k]?.getD 0).toNat < (a[k]?.getD 0).toNat then 1 else Lib.compareBytes a b
  | 0, x :: a, y :: b, _, _, _ => by
    simp only [List.getElem?_cons_zero, Option.getD_some, Lib.compareBytes, UInt8.lt_iff_toNat_lt]
    split <;> simp_all
  | k + 1, x :: a, y :: b, ha, hb, he => by
    simp only [List.take_succ_cons, List.cons.injEq] at he
    obtain ⟨rfl, he⟩ := he
    have := compare_step k a b (by simpa using ha) (by simpa using hb) he
    simp only [List.getElem?_cons_succ, Lib.compareBytes, UInt8.lt_irrefl, if_false]
    exact this
  | _, [], _, ha, _, _ => by simp at ha
  | _, _ :: _, [], _, hb, _ => by simp at hb

theorem compare_end : ∀ (a b : List UInt8), a.take (min a.length b.length) = b.take (min a.length b.length) → Lib.compareBytes a b = if a.length < b.length then -1 else if b.length < a.length then 1 else 0
  | [], [], _ => rfl
  | [], _ :: _, _ => by simp [Lib.compareBytes]
  | _ :: _, [], _ => by simp [Lib.compareBytes]
  | x :: a, y :: b, h => by
    simp only [List.length_cons, Nat.succ_min_succ, List.take_succ_cons, List.cons.injEq] at h
    obtain ⟨rfl, h⟩ := h
    have := compare_end a b h
    simp only [Lib.compareBytes, UInt8.lt_irrefl, if_false, List.length_cons, Nat.succ_lt_succ_iff]
    exact this

set_option maxHeartbeats 800000 in
theorem refcmp_any (a1 a2 : Option Addr) (n1 c1 n2 c2 : Nat) (l1 l2 : List UInt8) (w : World) (h1 : Bts w a1 n1 c1 l1) (h2 : Bts w a2 n2 c2 l2) :
    Calls Try.prog 32 #[.slice a1 n1 c1, .slice a2 n2 c2] w fun e w' => e = .returned (.int .i64 (Lib.compareBytes l1 l2)) ∧ ∃ d, w' = w.drewN d := by
  have H1 := Lib.hid h1
  have H2 := Lib.hid h2
  have L1 := Lib.hid h1.length
  have L2 := Lib.hid h2.length
  have hm1 := h1.len_le
  have hm2 := h2.len_le
  unfold maxLen at hm1 hm2
  clear h1 h2
  go_enter Try.func32, Try.ntmps32
  go_wp2
  go_loopw [5] (fun i wr => ∃ k : Nat, k ≤ n1 ∧ k ≤ n2 ∧ i = .int .i64 k ∧ Hid (l1.take k = l2.take k) ∧ ∃ d, wr = w.drewN d) (fun i _ => n1 - (intOf i).toNat)
  case atStart => exact ⟨0, Nat.zero_le _, Nat.zero_le _, rfl, by simp [Hid], 0, rfl⟩
  case round =>
    obtain ⟨k, hk1, hk2, rfl, heq, d, rfl⟩ := hrel
    by_cases hlt : k < n1 ∧ k < n2
    · obtain ⟨hlt1, hlt2⟩ := hlt
      obtain ⟨b1, o1, rfl, _, hc1⟩ := H1.out.cells (by omega)
      obtain ⟨b2, o2, rfl, _, hc2⟩ := H2.out.cells (by omega)
      have hx := hc1 k hlt1
      have hy := hc2 k hlt2
      have hst := Lib.hid (compare_step k l1 l2 (by have := L1.out; omega) (by have := L2.out; omega) heq.out)
      have htk := Lib.hid (fun (e : (l1[k]?.getD 0).toNat = (l2[k]?.getD 0).toNat) => show l1.take (k + 1) = l2.take (k + 1) by
        rw [take_snoc8 l1 k (by have := L1.out; omega), take_snoc8 l2 k (by have := L2.out; omega), heq.out, UInt8.toNat_inj.1 e])
      clear hc1 hc2
      generalize (l1[k]?.getD 0).toNat = x at *
      generalize (l2[k]?.getD 0).toNat = y at *
      by_cases hxy : x < y
      · have hb1 : decide ((x : Int) < (y : Int)) = true := by simp; omega
        go_wp2
        go_quiet (fail)
        go_wp2
        go_ret
        exact ⟨by rw [hst.out, if_pos hxy]; rfl, _, World.drewN_drewN _ _ _⟩
      · by_cases hyx : y < x
        · have hb1 : decide ((x : Int) < (y : Int)) = false := by simp; omega
          have hb2 : decide ((y : Int) < (x : Int)) = true := by simp; omega
          go_wp2
          go_quiet (fail)
          go_wp2
          go_quiet (fail)
          go_wp2
          go_ret
          exact ⟨by rw [hst.out, if_neg hxy, if_pos hyx]; rfl, _, by rw [World.drewN_drewN, World.drewN_drewN]⟩
        · obtain rfl : x = y := by omega
          have hb1 : decide ((x : Int) < (x : Int)) = false := by simp
          go_wp2
          go_quiet (fail)
          go_wp2
          go_quiet (fail)
          go_wp2
          go_roundw
          case rel => exact ⟨k + 1, by omega, by omega, by go_num, htk.out trivial, _, rfl⟩
          case measure => simp [intOf] <;> omega
    · have hend := Lib.hid (compare_end l1 l2 (by rw [L1.out, L2.out, show min n1 n2 = k from by omega]; exact heq.out))
      rw [L1.out, L2.out] at hend
      by_cases h12 : k < n1
      · obtain rfl : k = n2 := by omega
        go_wp2
        go_ret
        exact ⟨by rw [hend.out, if_neg (by omega), if_pos (by omega)]; rfl, d, rfl⟩
      · obtain rfl : k = n1 := by omega
        by_cases h21 : k < n2
        · go_wp2
          go_ret
          exact ⟨by rw [hend.out, if_pos h21]; rfl, d, rfl⟩
        · obtain rfl : k = n2 := by omega
          go_wp2
          go_ret
          exact ⟨by rw [hend.out, if_neg (by omega), if_neg (by omega)]; rfl, d, rfl⟩

/-- Bytes laid over others. -/
def xorL (a b : List UInt8) : List UInt8 := List.zipWith (· ^^^ ·) a b
def xorR (a b : List UInt8) : List UInt8 × Int := if a.length = b.length then (xorL a b, 0) else ([], 2)

theorem xorL_step (a b : List UInt8) (k : Nat) (ha : k < a.length) (hb : k < b.length) : xorL (a.take (k + 1)) (b.take (k + 1)) = xorL (a.take k) (b.take k) ++ [a[k]?.getD 0 ^^^ b[k]?.getD 0] := by
  rw [take_snoc8 a k ha, take_snoc8 b k hb]
  unfold xorL
  rw [List.zipWith_append (by simp; omega)]
  rfl

theorem xor8 (x y : UInt8) : bits BinOp.xor IntKind.u8 (x.toNat : Int) (y.toNat : Int) = ((x ^^^ y).toNat : Int) := by
  rw [u8_xor_nat _ _ (UInt8.toNat_lt x) (UInt8.toNat_lt y), UInt8.toNat_xor]

theorem xor_fill (a b : List UInt8) (n k : Nat) (hk : k < n) (ha : a.length = n) (hb : b.length = n) :
    (xorL (a.take k) (b.take k) ++ List.replicate (n - k) 0).set k (a[k]?.getD 0 ^^^ b[k]?.getD 0) = xorL (a.take (k + 1)) (b.take (k + 1)) ++ List.replicate (n - (k + 1)) 0 := by
  have hl : (xorL (a.take k) (b.take k)).length = k := by simp [xorL]; omega
  rw [xorL_step a b k (by omega) (by omega), List.set_append_right _ _ (by omega), hl, Nat.sub_self, show n - k = n - (k + 1) + 1 from by omega, List.replicate_succ]
  simp

set_option maxHeartbeats 800000 in
theorem xor_any (a1 a2 : Option Addr) (n1 c1 n2 c2 : Nat) (l1 l2 : List UInt8) (w : World) (h1 : Bts w a1 n1 c1 l1) (h2 : Bts w a2 n2 c2 l2) (hm : n1 ≤ 140737488355328) :
    Calls Try.prog 25 #[.slice a1 n1 c1, .slice a2 n2 c2] w fun e w' => RetsOwn2 w.heap.size w' (xorR l1 l2) e ∧ Below w.heap.size w w' := by
  obtain ⟨i0, hi, hz0, hz1, hz2⟩ := info_parts Try.info8
  have H1 := Lib.hid h1
  have H2 := Lib.hid h2
  have L1 := Lib.hid h1.length
  have L2 := Lib.hid h2.length
  have hm2 := h2.len_le
  unfold maxLen at hm2
  clear h1 h2
  by_cases hn : n1 = n2
  · subst hn
    have hR := Lib.hid (show xorR l1 l2 = (xorL l1 l2, 0) by rw [xorR, if_pos (by rw [L1.out, L2.out])])
    go_enter Try.func25, Try.ntmps25
    go_wp2_with (at_make; refine wpList_make_full _ rfl _ _ 22 rfl w.heap.size 5 i0 (.int .u8 0) 1 Try.underlying22 hi hz0 hz1 _ _ _ _ n1 rfl rfl rfl rfl (by rw [hz2]; omega) (by unfold maxLen; omega) (Nat.le_refl _) ?_; intro w1 hown hgrow)
    have hown1 : Own8 5 w.heap.size w1 (.slice (some ⟨w.heap.size, 0, none⟩) n1 n1) (List.replicate n1 0) := by
      unfold Own8
      rw [← zeros_byt]
      simpa using hown
    have hb1 : Below w.heap.size w w1 := (Below.refl _ _).grown hgrow (Nat.le_refl _) (fun _ h => by cases h)
    clear hown hgrow
    go_loopw [18] (fun i wr => ∃ k : Nat, k ≤ n1 ∧ i = .int .i64 k ∧ Own8 5 w.heap.size wr (.slice (some ⟨w.heap.size, 0, none⟩) n1 n1) (xorL (l1.take k) (l2.take k) ++ List.replicate (n1 - k) 0) ∧ Below w.heap.size w wr) (fun i _ => n1 - (intOf i).toNat)
    case atStart => exact ⟨0, Nat.zero_le _, rfl, by simpa [xorL] using hown1, hb1⟩
    case round =>
      obtain ⟨k, hk, rfl, hown, hb⟩ := hrel
      have HO := Lib.hid hown
      by_cases hlt : k < n1
      · obtain ⟨b1, o1, rfl, _, hc1⟩ := (H1.out.below hb).cells (by omega)
        obtain ⟨b2, o2, rfl, _, hc2⟩ := (H2.out.below hb).cells (by omega)
        have hx := hc1 k hlt
        have hy := hc2 k hlt
        have hlen : n1 = (xorL (l1.take k) (l2.take k) ++ List.replicate (n1 - k) 0).length := by
          have := L1.out; have := L2.out; simp [xorL]; omega
        have hcell := hown.cellAt hlen k hlt
        have hfr := hown.frozenAt hlen k
        have HX := Lib.hid (xor8 (l1[k]?.getD 0) (l2[k]?.getD 0))
        have HF := Lib.hid (xor_fill l1 l2 n1 k hlt L1.out L2.out)
        have HL := Lib.hid hlen
        clear hc1 hc2 hown hlen hown1 hb1
        generalize l1[k]?.getD 0 = x at *
        generalize l2[k]?.getD 0 = y at *
        go_wp2
        go_region
        go_wp2
        rw [HX.out]
        have hst := HO.out.stored HL.out k (x ^^^ y) _ rfl
        rw [HF.out] at hst
        go_roundw
        case rel => exact ⟨k + 1, by omega, by go_num, hst.1, (hst.2 _ hb).drew⟩
        case measure => simp [intOf] <;> omega
      · obtain rfl : k = n1 := by omega
        go_wp2
        go_ret2
        rw [hR.out]
        rw [List.take_of_length_le (by rw [L1.out]; omega), List.take_of_length_le (by rw [L2.out]; omega), Nat.sub_self] at hown
        exact ⟨⟨_, rfl, by simpa using hown⟩, hb⟩
  · have hR := Lib.hid (show xorR l1 l2 = ([], 2) by rw [xorR, if_neg (by rw [L1.out, L2.out]; exact hn)])
    have hne : ((n1 : Int) != (n2 : Int)) = true := by simp; omega
    go_enter Try.func25, Try.ntmps25
    go_wp2
    go_ret2
    rw [hR.out]
    exact ⟨⟨_, rfl, Own8.nil _ _ _⟩, Below.refl _ _⟩

theorem xor_bit (x y k : Nat) : (x ^^^ y) % 2 ^ (k + 1) = (x ^^^ y) % 2 ^ k + if x / 2 ^ k % 2 = y / 2 ^ k % 2 then 0 else 2 ^ k := by
  rw [Nat.mod_pow_succ]
  have h := Nat.testBit_xor x y k
  simp only [Nat.testBit_eq_decide_div_mod_eq] at h
  have hx := Nat.mod_lt (x / 2 ^ k) (show 0 < 2 by decide)
  have hy := Nat.mod_lt (y / 2 ^ k) (show 0 < 2 by decide)
  have hz := Nat.mod_lt ((x ^^^ y) / 2 ^ k) (show 0 < 2 by decide)
  congr 1
  generalize x / 2 ^ k % 2 = p at *
  generalize y / 2 ^ k % 2 = q at *
  generalize (x ^^^ y) / 2 ^ k % 2 = r at *
  have hp : p = 0 ∨ p = 1 := by omega
  have hq : q = 0 ∨ q = 1 := by omega
  have hr : r = 0 ∨ r = 1 := by omega
  rcases hp with rfl | rfl <;> rcases hq with rfl | rfl <;> rcases hr with rfl | rfl <;> simp at h ⊢

theorem bit_test (x y p : Nat) (hx : x < 256) (hy : y < 256) : ((wrap64 ((x : Int) / (p : Int))).tmod 2 != (wrap64 ((y : Int) / (p : Int))).tmod 2) = decide (¬ x / p % 2 = y / p % 2) := by
  have e : ∀ z : Nat, z < 256 → (wrap64 ((z : Int) / (p : Int))).tmod 2 = ((z / p % 2 : Nat) : Int) := fun z hz => by
    have hd := Nat.div_le_self z p
    rw [show (z : Int) / (p : Int) = ((z / p : Nat) : Int) from by simp]
    generalize z / p = q at *
    rw [IntWalk.wrap64_in _ (by omega)]
    rw [Int.tmod_eq_emod_of_nonneg (by omega)]
    simp
  rw [e x hx, e y hy, Bool.eq_iff_iff, bne_iff_ne, decide_eq_true_iff]
  omega

set_option maxHeartbeats 1600000 in
theorem refxor_any (a1 a2 : Option Addr) (n1 c1 n2 c2 : Nat) (l1 l2 : List UInt8) (w : World) (h1 : Bts w a1 n1 c1 l1) (h2 : Bts w a2 n2 c2 l2) (hm : n1 ≤ 140737488355328) :
    Calls Try.prog 26 #[.slice a1 n1 c1, .slice a2 n2 c2] w fun e w' => RetsOwn2 w.heap.size w' (xorR l1 l2) e ∧ Below w.heap.size w w' := by
  obtain ⟨i0, hi, hz0, hz1, hz2⟩ := info_parts Try.info8
  have H1 := Lib.hid h1
  have H2 := Lib.hid h2
  have L1 := Lib.hid h1.length
  have L2 := Lib.hid h2.length
  have hm2 := h2.len_le
  unfold maxLen at hm2
  clear h1 h2
  by_cases hn : n1 = n2
  · subst hn
    have hR := Lib.hid (show xorR l1 l2 = (xorL l1 l2, 0) by rw [xorR, if_pos (by rw [L1.out, L2.out])])
    go_enter Try.func26, Try.ntmps26
    go_wp2
    go_loopw [6, 7] (fun v i wr => ∃ k : Nat, k ≤ n1 ∧ i = .int .i64 k ∧ Own8 5 w.heap.size wr v (xorL (l1.take k) (l2.take k)) ∧ Below w.heap.size w wr) (fun _ i _ => n1 - (intOf i).toNat)
    case atStart => exact ⟨0, Nat.zero_le _, rfl, Own8.nil _ _ _, Below.refl _ _⟩
    case round =>
      obtain ⟨k, hk, rfl, hown, hb⟩ := hrel
      by_cases hlt : k < n1
      · obtain ⟨b1, o1, rfl, _, hc1⟩ := (H1.out.below hb).cells (by omega)
        obtain ⟨b2, o2, rfl, _, hc2⟩ := (H2.out.below hb).cells (by omega)
        have hx := hc1 k hlt
        have hy := hc2 k hlt
        have hst := Lib.hid (xorL_step l1 l2 k (by rw [L1.out]; exact hlt) (by rw [L2.out]; exact hlt))
        have hlen : (xorL (l1.take k) (l2.take k)).length = k := by have := L1.out; have := L2.out; simp [xorL]; omega
        have HO := Lib.hid hown
        have HLen := Lib.hid hlen
        clear hc1 hc2 hown hlen
        generalize l1[k]?.getD 0 = x at *
        generalize l2[k]?.getD 0 = y at *
        have hX := UInt8.toNat_lt x
        have hY := UInt8.toNat_lt y
        have HXY := Lib.hid (show (x.toNat ^^^ y.toNat) % 2 ^ 8 = (x ^^^ y).toNat by rw [UInt8.toNat_xor, Nat.mod_eq_of_lt (Nat.xor_lt_two_pow (UInt8.toNat_lt x) (UInt8.toNat_lt y))])
        generalize (x ^^^ y) = z at *
        generalize x.toNat = xn at *
        generalize y.toNat = yn at *
        obtain ⟨wo, hwo⟩ : ∃ wo : World, wo = wr := ⟨_, rfl⟩
        subst hwo
        have hsz := hb.size
        go_wp2
        go_loopw [8, 9, 10] (fun c q j w2 => ∃ t : Nat, t ≤ 8 ∧ j = .int .i64 t ∧ c = .int .i64 (((xn ^^^ yn) % 2 ^ t : Nat) : Int) ∧ q = .int .i64 ((2 ^ t : Nat) : Int) ∧ ∃ d, w2 = wo.drewN d) (fun _ _ j _ => 8 - (intOf j).toNat)
        case atStart => exact ⟨0, by omega, rfl, by simp [Nat.mod_one], rfl, 0, rfl⟩
        case round =>
          obtain ⟨t, ht, rfl, rfl, rfl, d, rfl⟩ := hrel
          by_cases ht8 : t < 8
          · have hbit := Lib.hid (xor_bit xn yn t)
            have hp : (xn ^^^ yn) % 2 ^ t < 2 ^ t := Nat.mod_lt _ (Nat.pow_pos (by decide))
            have hp1 : 2 ^ t ≤ 2 ^ 7 := Nat.pow_le_pow_right (by decide) (by omega)
            have hp2 : 0 < 2 ^ t := Nat.pow_pos (by decide)
            have hpow := Lib.hid (Nat.pow_succ 2 t)
            generalize (xn ^^^ yn) % 2 ^ t = c at *
            generalize 2 ^ t = p at *
            by_cases hsame : xn / p % 2 = yn / p % 2
            · have hb1 := bit_test xn yn p hX hY
              rw [decide_eq_false (fun h => h hsame)] at hb1
              have HS := Lib.hid hsame
              clear hsame
              go_wp2
              go_quiet (fail)
              go_wp2
              go_roundw
              case rel => exact ⟨t + 1, by omega, by go_num, by rw [hbit.out, if_pos HS.out]; rfl, by rw [hpow.out]; go_num, _, rfl⟩
              case measure => simp [intOf] <;> omega
            · have hb1 := bit_test xn yn p hX hY
              rw [decide_eq_true hsame] at hb1
              have HS := Lib.hid hsame
              clear hsame
              go_wp2
              go_quiet (fail)
              go_wp2
              go_roundw
              case rel => exact ⟨t + 1, by omega, by go_num, by rw [hbit.out, if_neg HS.out]; go_num, by rw [hpow.out]; go_num, _, rfl⟩
              case measure => simp [intOf] <;> omega
          · obtain rfl : t = 8 := by omega
            rw [HXY.out]
            have hz := UInt8.toNat_lt z
            have hod : Own8 5 w.heap.size (wo.drewN d) u6 (xorL (l1.take k) (l2.take k)) := HO.out
            go_wp2_with (at_builtin; refine wpList_append_bts _ rfl _ _ 22 rfl w.heap.size 5 i0 Try.underlying22 hi hz0 hz1 hz2 _ _ rfl (hod.alloc _) _ _ _ [z] rfl (Bts.one (wo.drewN d) _ _ z ?hz) (by rw [HLen.out]; omega) (by simp; omega) ?_; rotate_left; intro v' w3 hown3 hgrow)
            case hz => rfl
            go_roundw
            case rel => exact ⟨k + 1, by omega, by go_num, by rw [hst.out]; exact hown3, hgrow _ ((hb.trans (below_drewN (Below.refl _ _) d)).alloc (by simp; omega) _)⟩
            case measure => simp [intOf] <;> omega
      · obtain rfl : k = n1 := by omega
        go_wp2
        go_ret2
        rw [hR.out]
        rw [List.take_of_length_le (by rw [L1.out]; omega), List.take_of_length_le (by rw [L2.out]; omega)] at hown
        exact ⟨⟨_, rfl, hown⟩, hb⟩
  · have hR := Lib.hid (show xorR l1 l2 = ([], 2) by rw [xorR, if_neg (by rw [L1.out, L2.out]; exact hn)])
    have hne : ((n1 : Int) != (n2 : Int)) = true := by simp; omega
    go_enter Try.func26, Try.ntmps26
    go_wp2
    go_ret2
    rw [hR.out]
    exact ⟨⟨_, rfl, Own8.nil _ _ _⟩, Below.refl _ _⟩

end Go.Proofs.Ytidiapdddkknpaa
