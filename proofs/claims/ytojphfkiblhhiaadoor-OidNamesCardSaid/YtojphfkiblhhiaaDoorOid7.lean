/-
  OID: Read. (Written by wip/gen_oid7.py.)
-/
import Derived.Laws.BitsAllLaws
import Derived.Test.YtojphfkiblhhiaaDoorOid6
namespace Go.Proofs.YtojphfkiblhhiaaDoor
open Go.RowKit
set_option maxRecDepth 100000

theorem infoU64 : (Tryd.prog.info? 36).map (fun i => (i.zero, i.size, i.bytes)) = some (some (.int .u64 0), 1, 8) := by kernel_rfl

theorem accO_lt (n x : Nat) : accO n x < 18446744073709551616 := Nat.mod_lt _ (by decide)
theorem or_low (n x : Nat) : (n * 128 % 18446744073709551616) ||| (x % 128) = accO n x := by
  have h1 : n * 128 % 18446744073709551616 = (n % 144115188075855872) <<< 7 := by rw [Nat.shiftLeft_eq]; omega
  have h2 : x % 128 < 2 ^ 7 := Nat.mod_lt _ (by decide)
  rw [h1, ← Nat.shiftLeft_add_eq_or_of_lt h2, Nat.shiftLeft_eq, accO]
  omega
theorem u64_or_low (n x : Nat) (hx : x < 256) : bits BinOp.or IntKind.u64 (IntKind.u64.wrap ((n : Int) * 128)) (IntKind.u64.wrap (bits BinOp.and IntKind.u8 (x : Int) 127)) = ((accO n x : Nat) : Int) := by
  have h1 : IntKind.u64.wrap ((n : Int) * 128) = ((n * 128 % 18446744073709551616 : Nat) : Int) := by
    simp only [IntKind.wrap, IntKind.bits, IntKind.signed]
    simp
  have h2 : IntKind.u64.wrap (bits BinOp.and IntKind.u8 (x : Int) 127) = ((x % 128 : Nat) : Int) := by
    rw [and127 x hx]
    simp only [IntKind.wrap, IntKind.bits, IntKind.signed]
    simp
    omega
  rw [h1, h2, u64_or_nat _ _ (Nat.mod_lt _ (by decide)) (by omega), or_low]

set_option maxHeartbeats 2000000 in
theorem read_o (a : Option Addr) (len cap : Nat) (b : List Nat) (w : World) (h : Reads .u8 w a len cap b) (hB : Byt b) (hlen : len ≤ 100000) :
    Calls Tryd.prog 17 #[.slice a len cap] w fun e w' => RetsO .u64 36 w.heap.size w' (readO b) e ∧ Below w.heap.size w w' := by
  obtain ⟨i0, hi, hz0, hz1, hz2⟩ := info_parts infoU64
  have hm := h.len_le
  unfold maxLen at hm
  have H := Lib.hid h
  have HLN := Lib.hid h.length
  have HBY := Lib.hid hB
  clear h hB
  go_enter Tryd.func17, Tryd.ntmps17
  go_wp2_with fail
  go_loopw [4, 5, 13] (fun lv nv iv wr => ∃ (i n : Nat) (la : Option Addr) (ln lc : Nat), iv = .int .i64 (i : Int) ∧ i ≤ len ∧ nv = .int .u64 (n : Int) ∧ n < 18446744073709551616 ∧ lv = .slice la ln lc ∧ ln ≤ 2 * i ∧ Hid (OwnQ .u64 36 w.heap.size wr (.slice la ln lc) (runR (b.take i)).1) ∧ Hid (n = (runR (b.take i)).2) ∧ Hid (Below w.heap.size w wr)) (fun _ _ iv _ => len + 1 - (intOf iv).toNat)
  case atStart => exact ⟨0, 0, none, 0, 0, rfl, by omega, rfl, by omega, rfl, by omega, Lib.hid (OwnQ.nil _ _ _ _), Lib.hid rfl, Lib.hid (Below.refl _ _)⟩
  case round =>
    obtain ⟨i, n, la, ln, lc, rfl, hi1, rfl, hn, rfl, hln, HO, HN, HB⟩ := hrel
    obtain ⟨L, n1, hL⟩ : ∃ L n1, runR (b.take i) = (L, n1) := ⟨_, _, rfl⟩
    rw [hL] at HO HN
    dsimp only at HO HN
    obtain rfl : n = n1 := HN.out
    by_cases hlt : i < len
    · obtain ⟨bb, off, rfl, hbl, hc⟩ := H.out.cells (by omega)
      have ci := (HB.out.cell (p := ⟨bb, off + i, none⟩) hbl).trans (hc i hlt)
      have hget : b[i]? = some (b[i]?.getD 0) := by rw [List.getElem?_eq_getElem (by have := HLN.out; omega)]; rfl
      have hx8 : b[i]?.getD 0 < 256 := HBY.out _ (List.mem_of_getElem? hget)
      have HT := Lib.hid (show runR (b.take (i + 1)) = stepR (L, n) (b[i]?.getD 0) by rw [← hL, List.take_add_one, hget]; exact runR_snoc _ _)
      clear hc hget hL
      generalize b[i]?.getD 0 = x at *
      obtain ⟨ac, hac⟩ : ∃ c, accO n x = c := ⟨_, rfl⟩
      have hor := u64_or_low n x hx8
      rw [hac] at hor
      have hal : ac < 18446744073709551616 := by rw [← hac]; exact accO_lt _ _
      by_cases hx : 128 ≤ x
      · have HT2 := Lib.hid (show runR (b.take (i + 1)) = (L, ac) by rw [HT.out, stepR, if_pos hx]; simp only; rw [hac])
        have d1 : decide ((128 : Int) ≤ (x : Int)) = true := by simp; omega
        clear hac
        go_wp2
        go_roundw
        case rel => exact ⟨i + 1, ac, la, ln, lc, by go_num, by omega, rfl, hal, rfl, by omega, by rw [HT2.out]; exact HO, by rw [HT2.out]; exact Lib.hid rfl, HB⟩
        case measure => simp [intOf]; omega
      have d1 : decide ((128 : Int) ≤ (x : Int)) = false := by simp; omega
      have hcap := HO.out.cap
      by_cases hl0 : ln = 0
      · have hLn : L = [] := List.eq_nil_of_length_eq_zero (by rw [← hcap.1]; exact hl0)
        obtain ⟨f, hf⟩ : ∃ f, min (ac / 40) 2 = f := ⟨_, rfl⟩
        obtain ⟨r, hr⟩ : ∃ r, ac - 40 * f = r := ⟨_, rfl⟩
        obtain ⟨q, hq⟩ : ∃ q, ac / 40 = q := ⟨_, rfl⟩
        have HT2 := Lib.hid (show runR (b.take (i + 1)) = ([f, r], 0) by rw [HT.out, stepR, if_neg hx]; simp only; rw [hac, pushO, if_pos hLn, hf, hr])
        have e1 : (ac : Int) / 40 = (q : Int) := by omega
        have x1 : ∀ W, (Builtin.min_ #[36, 36] 36 #[.int .u64 (q : Int), .int .u64 2]).run Tryd.prog W = .ok (.int .u64 (f : Int)) W := fun W => by
          rw [run_min_int2]
          congr 2
          split <;> omega
        have x2 : (if (2 : Int) < (q : Int) then (2 : Int) else (q : Int)) = (f : Int) := by split <;> omega
        have x3 : (if 2 < q then (2 : Int) else (q : Int)) = (f : Int) := by split <;> omega
        obtain ⟨g, hg⟩ : ∃ g, 40 * f = g := ⟨_, rfl⟩
        have m1 : 40 * (f : Int) = (g : Int) := by omega
        have m2 : (ac : Int) - (g : Int) = (r : Int) := by omega
        have hf2 : f ≤ 2 := by omega
        have hr2 : r < 18446744073709551616 := by omega
        subst hLn
        subst hl0
        clear hac hx hf hr hq hg hcap HT
        go_wp2_with (at_builtin; first | (refine wpList_append_q .u64 _ rfl _ _ 22 rfl w.heap.size 36 8 i0 Tryd.underlying22 hi hz0 hz1 hz2 (by decide) _ [] rfl (HO.out.alloc _) _ _ _ [f] rfl (Reads.one .u64 _ _ _ _ rfl) (by simp <;> omega) (by have := HB.out.size; simp; omega) ?_; intro v' w4 hown2 hgrow; obtain ⟨ua, un, uc, rfl, -, hown2⟩ := hown2.slice; have HO4 := Lib.hid hown2; have Hw4 := Lib.hid (hgrow w (HB.out.alloc HB.out.size _)); clear hown2 hgrow) | (refine wpList_append_q .u64 _ rfl _ _ 22 rfl w.heap.size 36 8 i0 Tryd.underlying22 hi hz0 hz1 hz2 (by decide) _ [f] rfl (HO4.out.alloc _) _ _ _ [r] rfl (Reads.one .u64 _ _ _ _ rfl) (by simp <;> omega) (by have := Hw4.out.size; simp; omega) ?_; intro v' w5 hown2 hgrow; obtain ⟨ta, tn, tc, rfl, -, hown2⟩ := hown2.slice; have HO5 := Lib.hid hown2; have Hw5 := Lib.hid (hgrow w (Hw4.out.alloc Hw4.out.size _)); clear hown2 hgrow))
        go_wp2
        go_roundw
        case rel => exact ⟨i + 1, 0, ta, tn, tc, by go_num, by omega, by go_num, by omega, rfl, by have := HO5.out.cap.1; simp at this; omega, by rw [HT2.out]; exact HO5, by rw [HT2.out]; exact Lib.hid rfl, Hw5⟩
        case measure => simp [intOf]; omega
      · have hLn : L ≠ [] := fun e => hl0 (by rw [hcap.1, e]; rfl)
        have HT2 := Lib.hid (show runR (b.take (i + 1)) = (L ++ [ac], 0) by rw [HT.out, stepR, if_neg hx]; simp only; rw [hac, pushO, if_neg hLn])
        have t0 : ((ln : Int) == 0) = false := by simp; omega
        have hLl := Lib.hid hcap.1
        have hLb : L.length ≤ 200000 := by omega
        clear hac hx hcap HT hLn
        go_wp2_with (at_builtin; refine wpList_append_q .u64 _ rfl _ _ 22 rfl w.heap.size 36 8 i0 Tryd.underlying22 hi hz0 hz1 hz2 (by decide) _ L rfl (HO.out.alloc _) _ _ _ [ac] rfl (Reads.one .u64 _ _ _ _ rfl) (by simp <;> omega) (by have := HB.out.size; simp; omega) ?_; intro v' w5 hown2 hgrow; obtain ⟨ta, tn, tc, rfl, -, hown2⟩ := hown2.slice; have HO5 := Lib.hid hown2; have Hw5 := Lib.hid (hgrow w (HB.out.alloc HB.out.size _)); clear hown2 hgrow)
        go_wp2
        go_roundw
        case rel => exact ⟨i + 1, 0, ta, tn, tc, by go_num, by omega, by go_num, by omega, rfl, by have := HO5.out.cap.1; have := hLl.out; simp at *; omega, by rw [HT2.out]; exact HO5, by rw [HT2.out]; exact Lib.hid rfl, Hw5⟩
        case measure => simp [intOf]; omega
    · have hie : i = len := by omega
      have HLL := Lib.hid (show (runR b).1 = L by
        rw [List.take_of_length_le (by have := HLN.out; omega)] at hL
        rw [hL])
      clear hie hL HN
      go_wp2_with fail
      refine (bytes_any la ln lc L _ HO.out.reads).mono ?_
      rintro e w4 ⟨⟨a4, n4, c4, rfl, hv4⟩, hb⟩
      have HO2 := Lib.hid (HO.out.below hb)
      have HB4 := Lib.hid (HB.out.trans (hb.mono HB.out.size))
      have HV4 := Lib.hid hv4
      have HRB := Lib.hid (H.out.below HB4.out)
      clear hb hv4
      by_cases hok : OidOk L
      · have hr := Lib.hid (show bytesR L = (bytesO L, 0) from if_pos hok)
        rw [hr.out] at HV4 ⊢
        dsimp only at HV4 ⊢
        by_cases hbe : bytesO L = b
        · have HD := Lib.hid (show decide (bytesO L = b) = true from decide_eq_true hbe)
          have HRR := Lib.hid (show readO b = (L, 0) by rw [readO, HLL.out, if_pos ⟨hok, hbe⟩])
          clear hbe hok
          go_wp2_with fail
          refine (equal_any a4 a n4 c4 len cap (bytesO L) b _ HV4.out.reads HRB.out (bytesO_byt L) HBY.out).mono ?_
          rintro e w5 ⟨rfl, rfl⟩
          rw [HD.out]
          go_wp2
          go_ret2
          exact ⟨⟨la, ln, lc, by rw [HRR.out]; rfl, by rw [HRR.out]; exact HO2.out⟩, HB4.out⟩
        · have HD := Lib.hid (show decide (bytesO L = b) = false from decide_eq_false hbe)
          have HRR := Lib.hid (show readO b = ([], 140) by rw [readO, HLL.out, if_neg fun k => hbe k.2])
          clear hbe hok
          go_wp2_with fail
          refine (equal_any a4 a n4 c4 len cap (bytesO L) b _ HV4.out.reads HRB.out (bytesO_byt L) HBY.out).mono ?_
          rintro e w5 ⟨rfl, rfl⟩
          rw [HD.out]
          go_wp2
          go_ret2
          exact ⟨⟨none, 0, 0, by rw [HRR.out]; rfl, by rw [HRR.out]; exact OwnQ.nil _ _ _ _⟩, HB4.out⟩
      · have hr := Lib.hid (show bytesR L = ([], 140) from if_neg hok)
        have HRR := Lib.hid (show readO b = ([], 140) by rw [readO, HLL.out, if_neg fun k => hok k.1])
        rw [hr.out]
        clear hok HV4
        go_wp2
        go_ret2
        exact ⟨⟨none, 0, 0, by rw [HRR.out]; rfl, by rw [HRR.out]; exact OwnQ.nil _ _ _ _⟩, HB4.out⟩
end Go.Proofs.YtojphfkiblhhiaaDoor
