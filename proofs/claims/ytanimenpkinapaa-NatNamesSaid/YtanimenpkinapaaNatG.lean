/-
  THE LAW's Same, is AND alive.
-/
import Derived.Test.YtanimenpkinapaaNatD
import Derived.Test.YtanimenpkinapaaNatE
import Derived.Test.YtanimenpkinapaaNatF
namespace Go.Proofs.Ytanimenpkinapaa
open Go.RowKit

set_option maxHeartbeats 400000 in
theorem same_any (a a' : Option Addr) (n c n' c' : Nat) (l l' : List Nat) (w : World) (hx : Reads .u32 w a n c l) (hy : Reads .u32 w a' n' c' l') (r : Bool) (hr : r = decide (l = l')) :
    Calls Try.prog 22 #[.slice a n c, .slice a' n' c'] w fun e w' => e = .returned (.bool r) ∧ Below w.heap.size w w' := by
  have HX := Lib.hid hx
  have HY := Lib.hid hy
  have HR := Lib.hid hr
  have hmx := hx.len_le
  have hmy := hy.len_le
  unfold maxLen at hmx hmy
  clear hx hy hr
  by_cases hn : n = n'
  · subst hn
    go_enter Try.func22, Try.ntmps22
    go_wp2
    go_loopw [5] (fun i wr => ∃ k d : Nat, i = .int .i64 k ∧ k ≤ n ∧ wr = w.drewN d ∧ Hid (∀ j, j < k → l[j]?.getD 0 = l'[j]?.getD 0)) (fun i _ => n - (intOf i).toNat)
    case atStart => exact ⟨0, 0, rfl, Nat.zero_le _, rfl, fun j h => by omega⟩
    case round =>
      obtain ⟨k, d, rfl, hk, rfl, hall⟩ := hrel
      by_cases hlt : k < n
      · obtain ⟨b, off, rfl, hbk, hc⟩ := HX.out.cells (by omega)
        obtain ⟨b2, off2, rfl, hbk2, hc2⟩ := HY.out.cells (by omega)
        have hck := hc k hlt
        have hck2 := hc2 k hlt
        clear hc hc2
        by_cases he : l[k]?.getD 0 = l'[k]?.getD 0
        · have HE := Lib.hid he
          rw [he] at hck
          clear he
          generalize hxx : l'[k]?.getD 0 = x at *
          have HXX := Lib.hid hxx
          clear hxx
          have ht : ((x : Int) != (x : Int)) = false := by simp
          go_wp2
          go_quiet (fail)
          go_wp2
          go_roundw
          case rel => exact ⟨k + 1, _, by go_num, by omega, rfl, fun j hj => by
            by_cases e : j < k
            · exact hall.out j e
            · obtain rfl : j = k := by omega
              rw [HE.out, HXX.out]⟩
          case measure => simp [intOf]; omega
        · have hrf := Lib.hid (show r = false by rw [HR.out, decide_eq_false (fun e => he (by rw [e]))])
          generalize l[k]?.getD 0 = x at *
          generalize l'[k]?.getD 0 = y at *
          have ht : ((x : Int) != (y : Int)) = true := by simp; omega
          clear he
          go_wp2
          go_quiet (fail)
          go_wp2
          go_ret
          exact ⟨by rw [hrf.out]; rfl, below_drewN (below_drewN (Below.refl _ _) _) _⟩
      · have hrt := Lib.hid (show r = true by
          rw [HR.out, decide_eq_true_iff]
          apply List.ext_getElem
          · rw [HX.out.length, HY.out.length]
          · intro i h1 h2
            have := hall.out i (by rw [HX.out.length] at h1; omega)
            rwa [List.getElem?_eq_getElem h1, List.getElem?_eq_getElem h2] at this)
        go_wp2
        go_ret
        exact ⟨by rw [hrt.out]; rfl, below_drewN (Below.refl _ _) _⟩
  · have hrf := Lib.hid (show r = false by rw [HR.out, decide_eq_false (fun e => hn (by rw [← HX.out.length, ← HY.out.length, e]))])
    have ht : ((n : Int) != (n' : Int)) = true := by simp; omega
    go_enter Try.func22, Try.ntmps22
    go_wp2
    go_ret
    exact ⟨by rw [hrf.out]; rfl, Below.refl _ _⟩

/-- 'is(x, OK, l...)'. -/
theorem is_any (a a' : Option Addr) (n c n' c' : Nat) (l l' : List Nat) (w : World) (hx : Reads .u32 w a n c l) (hy : Reads .u32 w a' n' c' l') (r : Bool) (hr : r = decide (l = l')) :
    Calls Try.prog 40 #[.slice a n c, .int .i64 0, .slice a' n' c'] w fun e w' => e = .returned (.bool r) ∧ Below w.heap.size w w' := by
  have HS := Lib.hid (same_any a a' n c n' c' l l' w hx hy r hr)
  clear hx hy hr
  go_enter Try.func40, Try.ntmps40
  go_wp2_with fail
  refine HS.out.mono ?_
  rintro e w1 ⟨rfl, hb⟩
  go_wp2
  go_ret
  exact ⟨rfl, hb⟩

theorem lt_top {n : Nat} (h : n < 4294967296 ^ 2) : n < topN := Nat.lt_of_lt_of_le h (by unfold topN; exact Nat.pow_le_pow_right (by decide) (by decide))

theorem nat32_lit (l : List Nat) (v : Nat) (h : Lim l) (hb : bareN l = l) (hv : val32 l = v) : nat32 v = l := by rw [← hv, ← bareN_nat h, hb]
theorem nat8_lit (l : List Nat) (v : Nat) (h : Byt l) (hb : bareN l = l) (hv : valB 256 l = v) : natB 256 v = l := by rw [← hv, ← bareN_eq (by decide) h, hb]

/-- Numbers as bytes. -/
def u8s (l : List Nat) : List UInt8 := l.map UInt8.ofNat
theorem u8s_get (l : List Nat) (h : Byt l) (i : Nat) : ((u8s l)[i]?.getD 0).toNat = l[i]?.getD 0 := by
  by_cases hi : i < l.length
  · have := h _ (List.getElem_mem hi)
    simp [u8s, hi, UInt8.toNat_ofNat']
    omega
  · simp [u8s, List.getElem?_eq_none (show l.length ≤ i by omega)]
theorem u8s_inj {l m : List Nat} (h : Byt l) (k : Byt m) (e : u8s l = u8s m) : l = m := by
  apply List.ext_getElem
  · have := congrArg List.length e; simpa [u8s] using this
  · intro i h1 h2
    have e1 := u8s_get l h i
    have e2 := u8s_get m k i
    rw [e] at e1
    rw [e1] at e2
    rwa [List.getElem?_eq_getElem h1, List.getElem?_eq_getElem h2] at e2

theorem Reads.bts {w : World} {a : Option Addr} {n c : Nat} {l : List Nat} (h : Reads .u8 w a n c l) (hB : Byt l) : Bts w a n c (u8s l) :=
  ⟨by rw [u8s, List.length_map, h.length], h.le, h.max, h.nil, fun hp => by
    obtain ⟨b, off, rfl, hb, hc⟩ := h.cells hp
    exact ⟨b, off, rfl, hb, fun i hi => by rw [hc i hi, u8s_get l hB]⟩⟩

theorem conv8 {w : World} {a : Option Addr} {n c : Nat} {l : List Nat} (h : Reads .u8 w a n c l) (hB : Byt l) :
    (convert 24 9 (.slice a n c)).run Try.prog w = .ok (.string (strOf (u8s l))) w :=
  (h.bts hB).convert (P := Try.prog) _ _ _ Try.underlying24 Try.underlying5 Try.underlying9

theorem OwnQ.one (q : IntKind) (w : World) (E : TypeId) (B : Nat) (hB : B ≤ w.heap.size) (x : Int) (c : Nat) (hx : x = c) : OwnQ q E B (w.alloc (.cells #[.int q x] E)) (.slice (some ⟨w.heap.size, 0, .none⟩) 1 1) [c] := by
  subst hx
  exact World.ownsRow_lit w #[.int q c] 1 hB (by unfold maxLen; omega) rfl

set_option maxHeartbeats 1600000 in
theorem alive_any (w : World) : Calls Try.prog 41 #[] w fun e w' => e = .returned (.bool true) ∧ Below w.heap.size w w' := by
  go_enter Try.func41, Try.ntmps41
  go_wp2_with fail
  refine (of_any 4294967301 4294967301 rfl _ (by decide)).mono ?_
  rintro e w1 ⟨⟨v, rfl, ho⟩, hb⟩
  rw [nat32_lit [5, 1] 4294967301 (by decide) (by decide) (by decide)] at ho
  obtain ⟨a1, n1, c1, rfl, hn1, ho1⟩ := ho.slice
  obtain rfl : n1 = 2 := hn1
  have F1 := Lib.hid ho1.reads
  have H0 := Lib.hid hb
  clear ho ho1 hb
  go_wp2_with fail
  refine (read_any _ _ _ [0, 0, 1, 0] _ (OwnQ.four .u8 w1 5 0 (Nat.zero_le _) 0 0 1 0 0 0 1 0 rfl rfl rfl rfl).reads (by decide) (by decide)).mono ?_
  rintro e w2 ⟨⟨v, rfl, ho⟩, hb⟩
  replace hb := ((Below.refl w1.heap.size w1).alloc (Nat.le_refl _) _).trans (hb.mono (by simp))
  rw [show cutR32 (valB 256 [0, 0, 1, 0].reverse) = ([256], 0) from by rw [cutR_small (lt_top (by decide)), nat32_lit [256] _ (by decide) (by decide) (by decide)]] at ho ⊢
  obtain ⟨a2, n2, c2, rfl, hn2, ho2⟩ := ho.slice
  obtain rfl : n2 = 1 := hn2
  replace F1 := Lib.hid (F1.out.below hb)
  have F2 := Lib.hid ho2.reads
  replace H0 := Lib.hid (H0.out.trans (hb.mono H0.out.size))
  clear ho ho2 hb
  simp only
  go_wp2_with fail
  refine (of_any 4294967295 4294967295 rfl _ (by decide)).mono ?_
  rintro e w3 ⟨⟨v, rfl, ho⟩, hb⟩
  rw [nat32_lit [4294967295] 4294967295 (by decide) (by decide) (by decide)] at ho
  obtain ⟨a3, n3, c3, rfl, hn3, ho3⟩ := ho.slice
  obtain rfl : n3 = 1 := hn3
  replace F1 := Lib.hid (F1.out.below hb)
  replace F2 := Lib.hid (F2.out.below hb)
  have F3 := Lib.hid ho3.reads
  replace H0 := Lib.hid (H0.out.trans (hb.mono H0.out.size))
  clear ho ho3 hb
  go_wp2_with fail
  refine (of_any 1 1 rfl _ (by decide)).mono ?_
  rintro e w4 ⟨⟨v, rfl, ho⟩, hb⟩
  rw [nat32_lit [1] 1 (by decide) (by decide) (by decide)] at ho
  obtain ⟨a4, n4, c4, rfl, hn4, ho4⟩ := ho.slice
  obtain rfl : n4 = 1 := hn4
  replace F1 := Lib.hid (F1.out.below hb)
  replace F2 := Lib.hid (F2.out.below hb)
  replace F3 := Lib.hid (F3.out.below hb)
  have F4 := Lib.hid ho4.reads
  replace H0 := Lib.hid (H0.out.trans (hb.mono H0.out.size))
  clear ho ho4 hb
  go_wp2_with fail
  refine (add_any _ _ _ _ _ _ _ _ _ F3.out F4.out (by decide) (by decide)).mono ?_
  rintro e w5 ⟨⟨v, rfl, ho⟩, hb⟩
  rw [show cutR32 (val32 [4294967295] + val32 [1]) = ([0, 1], 0) from by rw [cutR_small (lt_top (by decide)), nat32_lit [0, 1] _ (by decide) (by decide) (by decide)]] at ho ⊢
  obtain ⟨a5, n5, c5, rfl, hn5, ho5⟩ := ho.slice
  obtain rfl : n5 = 2 := hn5
  replace F1 := Lib.hid (F1.out.below hb)
  replace F2 := Lib.hid (F2.out.below hb)
  have F5 := Lib.hid ho5.reads
  replace H0 := Lib.hid (H0.out.trans (hb.mono H0.out.size))
  clear ho ho5 hb F3 F4
  simp only
  go_wp2_with fail
  have hl := (OwnQ.two .u32 w5 54 0 (Nat.zero_le _) 5 1 5 1 rfl rfl).reads
  have hb0 := (Below.refl w5.heap.size w5).alloc (Nat.le_refl _) (.cells #[.int .u32 5, .int .u32 1] 54)
  refine (is_any _ _ _ _ _ _ [5, 1] [5, 1] _ (F1.out.below hb0) hl true rfl).mono ?_
  rintro e w6 ⟨rfl, hb⟩
  replace hb := hb0.trans (hb.mono (by simp))
  replace F1 := Lib.hid (F1.out.below hb)
  replace F2 := Lib.hid (F2.out.below hb)
  replace F5 := Lib.hid (F5.out.below hb)
  replace H0 := Lib.hid (H0.out.trans (hb.mono H0.out.size))
  clear hb hl hb0
  go_wp2_with fail
  refine (bytes_any _ _ _ [5, 1] _ F1.out (by decide) (by decide)).mono ?_
  rintro e w7 ⟨⟨v, rfl, ho⟩, hb⟩
  rw [nat8_lit [5, 0, 0, 0, 1] (val32 [5, 1]) (by decide) (by decide) (by decide)] at ho
  obtain ⟨a7, n7, c7, rfl, hn7, ho7⟩ := ho.slice
  obtain rfl : n7 = 5 := hn7
  have kb := conv8 ho7.reads (by decide)
  rw [show strOf (u8s [5, 0, 0, 0, 1].reverse) = ⟨#[1, 0, 0, 0, 5]⟩ from by decide] at kb
  replace F2 := Lib.hid (F2.out.below hb)
  replace F5 := Lib.hid (F5.out.below hb)
  replace H0 := Lib.hid (H0.out.trans (hb.mono H0.out.size))
  clear ho ho7 hb F1
  go_wp2_with fail
  clear kb
  have hl := (OwnQ.one .u32 w7 54 0 (Nat.zero_le _) 256 256 rfl).reads
  have hb0 := (Below.refl w7.heap.size w7).alloc (Nat.le_refl _) (.cells #[.int .u32 256] 54)
  refine (is_any _ _ _ _ _ _ [256] [256] _ (F2.out.below hb0) hl true rfl).mono ?_
  rintro e w8 ⟨rfl, hb⟩
  replace hb := hb0.trans (hb.mono (by simp))
  replace F5 := Lib.hid (F5.out.below hb)
  replace H0 := Lib.hid (H0.out.trans (hb.mono H0.out.size))
  clear hb hl hb0 F2
  go_wp2_with fail
  have hl := (OwnQ.two .u32 w8 54 0 (Nat.zero_le _) 0 1 0 1 rfl rfl).reads
  have hb0 := (Below.refl w8.heap.size w8).alloc (Nat.le_refl _) (.cells #[.int .u32 0, .int .u32 1] 54)
  refine (is_any _ _ _ _ _ _ [0, 1] [0, 1] _ (F5.out.below hb0) hl true rfl).mono ?_
  rintro e w9 ⟨rfl, hb⟩
  replace hb := hb0.trans (hb.mono (by simp))
  replace H0 := Lib.hid (H0.out.trans (hb.mono H0.out.size))
  clear hb hl hb0 F5
  go_wp2_with fail
  go_ret
  exact ⟨rfl, H0.out⟩

end Go.Proofs.Ytanimenpkinapaa
