/-
  WALKS OF NAT's Read AND Bytes.
-/
import Derived.Test.YtanimenpkinapaaNat4
namespace Go.Proofs.Ytanimenpkinapaa
open Go.RowKit

set_option maxHeartbeats 400000 in
theorem clone8_any (a : Option Addr) (len cap : Nat) (l : List Nat) (w : World) (h : Reads .u8 w a len cap l) (hm : len ≤ 17592186044416) :
    Calls Try.prog 48 #[.slice a len cap] w fun e w' => RetsQ .u8 5 w.heap.size w' l e ∧ Below w.heap.size w w' := by
  have H := Lib.hid h
  have hl := Lib.hid h.length
  obtain ⟨i0, hi, hz0, hz1, hz2⟩ := info_parts Try.info8
  cases a with
  | none =>
    obtain rfl : cap = 0 := h.nil rfl
    obtain rfl : len = 0 := by have := h.le; omega
    obtain rfl : l = [] := List.eq_nil_of_length_eq_zero h.length
    have he := fun W : World => Lib.run_eql_slice_nil (P := Try.prog) W 24 5 none 0 0 0 0 Try.underlying24
    go_enter Try.func48, Try.ntmps48
    go_wp2
    go_ret
    exact ⟨⟨_, rfl, OwnQ.nil _ _ _ _⟩, Below.refl _ _⟩
  | some ad =>
    clear h
    have he := fun W : World => Lib.run_eql_slice_nil (P := Try.prog) W 24 5 (some ad) len cap 0 0 Try.underlying24
    go_enter Try.func48, Try.ntmps48
    go_wp2_with (at_builtin; refine wpList_append_q .u8 _ rfl _ _ 24 rfl w.heap.size 5 1 i0 Try.underlying24 hi hz0 hz1 hz2 (by decide) _ [] rfl (OwnQ.empty _ w _ _ (Nat.le_refl _)) _ _ _ l rfl (H.out.below ((Below.refl _ _).alloc (Nat.le_refl _) _)) (by simp; omega) (by simp) ?_; intro v' w1 hown hgrow)
    go_ret
    exact ⟨⟨_, rfl, hown⟩, hgrow _ ((Below.refl _ _).alloc (Nat.le_refl _) _)⟩

theorem or_step (d c p : Nat) (x : Int) (s : Nat) (hp : p = 2 ^ s) (hs : 256 * p ≤ 4294967296) (hd : d < p) (hc : c < 256) (hx : x = (c * p : Nat)) : bits BinOp.or IntKind.u32 (d : Int) x = ((d + p * c : Nat) : Int) := by
  have h1 : c * p ≤ 255 * p := Nat.mul_le_mul_right _ (by omega)
  rw [hx, u32_or_nat _ _ (by omega) (by omega), shl_or d c s p hp hd]

theorem lim8_get {l : List Nat} (h : Byt l) (k : Nat) : l[k]?.getD 0 < 256 := by
  by_cases hk : k < l.length
  · rw [List.getElem?_eq_getElem hk]; exact h _ (List.getElem_mem _)
  · rw [List.getElem?_eq_none (by omega)]; decide

theorem fun_below {B : Nat} {w wr w' : World} (h : Below B w wr) (g : ∀ w0, Below B w0 wr → Below B w0 w') : Below B w w'.drew := (g w h).drew

theorem readR_small {l m : List Nat} (hm : bareN l.reverse = m) (hB : Byt l) (hc : m.length ≤ 1024) : valB 256 l.reverse < topN ∧ m = natB 256 (valB 256 l.reverse) := by
  have hB' : Byt l.reverse := fun x hx => hB x (List.mem_reverse.1 hx)
  exact ⟨(cut_iff8 _ hB').1 (by rw [hm]; exact hc), by rw [← hm, bareN_eq (by decide) hB']⟩

set_option maxHeartbeats 1000000 in
theorem read_any (a : Option Addr) (len cap : Nat) (l : List Nat) (w : World) (h : Reads .u8 w a len cap l) (hB : Byt l) (hm : len ≤ 17592186044416) :
    Calls Try.prog 15 #[.slice a len cap] w fun e w' => RetsQ2 .u32 54 w.heap.size w' (cutR32 (valB 256 l.reverse)) e ∧ Below w.heap.size w w' := by
  obtain ⟨i0, hi, hz0, hz1, hz2⟩ := info_parts Try.info32
  have HC := Lib.hid (clone8_any a len cap l w h hm)
  have hlen := h.length
  have HL := Lib.hid hlen
  have hB' : Byt l.reverse := fun x hx => hB x (List.mem_reverse.1 hx)
  have hble := bareN_le l.reverse
  rw [List.length_reverse, hlen] at hble
  have hpre := bareN_prefix l.reverse
  have hmB : Byt (bareN l.reverse) := fun x hx => hB' x (bareN_mem hx)
  have hci := cut_iff8 _ hB'
  have HV := Lib.hid (bareN_val 256 l.reverse)
  have HE := Lib.hid (bareN_eq (b := 256) (by decide) hB')
  clear h hlen
  go_enter Try.func15, Try.ntmps15
  go_wp2_with fail
  refine HC.out.mono ?_
  rintro e w1 ⟨⟨v, rfl, ho⟩, hb1⟩
  have HB1 := Lib.hid hb1
  obtain ⟨a1, n1, c1, rfl, hn1, ho1⟩ := ho.slice
  have HN1 := Lib.hid hn1
  clear hb1 ho hn1
  go_wp2_with fail
  refine (rev8_any _ _ _ _ _ _ ho1).mono ?_
  rintro e w2 ⟨rfl, ho2, hg2⟩
  have HB2 := Lib.hid (hg2 _ HB1.out)
  clear ho1 hg2
  go_wp2_with fail
  refine (bare8_any _ _ _ _ _ ho2.reads).mono ?_
  rintro e w3 ⟨rfl, rfl⟩
  have ho3 := ho2.upto (bareN l.reverse).length (by have := HN1.out; have := HL.out; omega)
  rw [← hpre] at ho3
  have HO := Lib.hid ho3
  clear ho2 ho3 hpre
  generalize bareN l.reverse = m at *
  by_cases hc : m.length ≤ 1024
  · have hv := hci.1 hc
    have hr := Lib.hid (show cutR32 (valB 256 l.reverse) = (nat32 (valB 256 l.reverse), 0) from cutR_small hv)
    clear hci hv
    generalize hM : m.length = M at *
    have HM := Lib.hid hM
    clear hM
    have hdec : decide ((1024 : Int) < (M : Int)) = false := by simp; omega
    have HmB := Lib.hid hmB
    clear hmB hB hB'
    go_wp2_with (at_make; refine wpList_make_full _ rfl _ _ 23 rfl w.heap.size 54 i0 (.int .u32 0) 1 Try.underlying23 hi hz0 hz1 _ _ _ _ ((M + 3) / 4) rfl rfl (by omega) (by omega) (by rw [hz2]; omega) (by unfold maxLen; omega) HB2.out.size ?_; intro w4 hown hgrow)
    have ho4 : OwnQ .u32 54 w.heap.size w4 (.slice (some ⟨w2.heap.size, 0, none⟩) ((M + 3) / 4) ((M + 3) / 4)) (List.replicate ((M + 3) / 4) 0) := OwnQ.made hown rfl
    have hb4 : Below w.heap.size w w4 := HB2.out.grown hgrow HB2.out.size (fun _ h => by cases h)
    have hm4 := HO.out.below ((Below.refl w2.heap.size w2).grown hgrow (Nat.le_refl _) (fun _ h => by cases h))
    have HG : Hid (0 < M → ∃ g, a1 = some ⟨g, 0, none⟩ ∧ g < w2.heap.size) := fun hp => by
      obtain ⟨g, c, e⟩ := HO.out.succ (by rintro rfl; have := HM.out; simp at this; omega)
      cases e
      exact ⟨g, rfl, (World.ownsRow.lt HO.out g rfl).2⟩
    have HOm := Lib.hid hm4
    have HO4 := Lib.hid ho4
    have HB4 := Lib.hid hb4
    clear hown hgrow hm4 ho4 hb4
    generalize hG2 : w2.heap.size = G at *
    clear hG2
    go_wp2
    go_loopw [24] (fun i wr => ∃ (k : Nat) (X : List Nat), i = .int .i64 k ∧ k ≤ M ∧ Hid (X.length = (M + 3) / 4 ∧ Lim X ∧ val32 X = valB 256 (m.take k)) ∧ OwnQ .u32 54 w.heap.size wr (.slice (some ⟨G, 0, none⟩) ((M + 3) / 4) ((M + 3) / 4)) X ∧ OwnQ .u8 5 w.heap.size wr (.slice a1 M c1) m ∧ Hid (Below w.heap.size w wr)) (fun i _ => M - (intOf i).toNat)
    case atStart => exact ⟨0, _, rfl, Nat.zero_le _, ⟨by simp, fun x hx => by rw [List.eq_of_mem_replicate hx]; decide, by rw [List.take_zero]; exact valB_zeros _ _⟩, HO4.out, HOm.out, HB4.out⟩
    case round =>
      obtain ⟨k, X, rfl, hk, hX, hoX, hom, hbel⟩ := hrel
      by_cases hlt : k < M
      · obtain ⟨g, rfl, hgG⟩ := HG.out (by omega)
        obtain ⟨x1, x2, x3⟩ := hX.out
        have ck := hom.cellAt HM.out.symm k hlt
        have cX := hoX.cellAt x1.symm (k / 4) (by omega)
        have fX := hoX.frozenAt x1.symm (k / 4)
        have hst := Lib.hid (read_step X m k x2 HmB.out (by have := HM.out; omega) (by rw [HM.out]; exact x1) x3)
        replace x1 := Lib.hid x1
        replace x2 := Lib.hid x2
        clear x3
        have HoX := Lib.hid hoX
        have Hom := Lib.hid hom
        clear hoX hom
        generalize hd : X[k / 4]?.getD 0 = d at *
        have HD := Lib.hid hd
        clear hd
        generalize hc' : m[k]?.getD 0 = c at *
        have HCC := Lib.hid hc'
        clear hc'
        obtain ⟨q, hq | hq | hq | hq⟩ : ∃ q, k = 4 * q ∨ k = 4 * q + 1 ∨ k = 4 * q + 2 ∨ k = 4 * q + 3 := ⟨k / 4, by omega⟩
        · have e1 : (k : Int) / 4 = (q : Int) := by omega
          have e2 : (k : Int) % 4 = 0 := by omega
          have e3 : (k : Int).tmod 4 = 0 := by rw [Int.tmod_eq_emod_of_nonneg (by omega)]; omega
          have HQ := Lib.hid hq
          have e4 := Lib.hid (show k / 4 = q by omega)
          have e5 := Lib.hid (show k % 4 = 0 by omega)
          clear hq
          rw [e4.out] at cX fX
          have hc8 := Lib.hid (show c < 256 by have := lim8_get HmB.out k; rwa [HCC.out] at this)
          obtain ⟨s1, s2, s3⟩ := hst.out
          rw [e4.out, e5.out] at s2
          rw [e5.out] at s1 s3
          have S1 := Lib.hid s1
          have S2 := Lib.hid s2
          have S3 := Lib.hid s3
          clear s1 s2 s3 hst
          go_wp2
          go_region
          all_goals
            go_wp2
            go_roundw
            case rel =>
              have hor := or_step d c 1 _ 0 (by decide) (by decide) (by have := S1.out; omega) hc8.out (show ((c : Int) % 4294967296) = _ by have := hc8.out; omega)
              rw [hor]
              have s1 := HoX.out.stored x1.out.symm q (d + 1 * c) _ rfl
              exact ⟨k + 1, X.set q (d + 1 * c), by go_num, by omega, ⟨by rw [List.length_set]; exact x1.out, mem_set x2.out (by have := S3.out; omega), S2.out⟩, s1.1.drew, OwnQ.drew (ownsRow_setCell_other Hom.out (by intro e; simp [Value.ownBlock] at e; omega) _), fun_below hbel.out s1.2⟩
            case measure => simp [intOf] <;> omega
        · have e1 : (k : Int) / 4 = (q : Int) := by omega
          have e2 : (k : Int) % 4 = 1 := by omega
          have e3 : (k : Int).tmod 4 = 1 := by rw [Int.tmod_eq_emod_of_nonneg (by omega)]; omega
          have HQ := Lib.hid hq
          have e4 := Lib.hid (show k / 4 = q by omega)
          have e5 := Lib.hid (show k % 4 = 1 by omega)
          clear hq
          rw [e4.out] at cX fX
          have hc8 := Lib.hid (show c < 256 by have := lim8_get HmB.out k; rwa [HCC.out] at this)
          obtain ⟨s1, s2, s3⟩ := hst.out
          rw [e4.out, e5.out] at s2
          rw [e5.out] at s1 s3
          have S1 := Lib.hid s1
          have S2 := Lib.hid s2
          have S3 := Lib.hid s3
          clear s1 s2 s3 hst
          go_wp2
          go_region
          all_goals
            go_wp2
            go_roundw
            case rel =>
              have hor := or_step d c 256 _ 8 (by decide) (by decide) (by have := S1.out; omega) hc8.out (show ((c : Int) % 4294967296 * 256 % 4294967296) = _ by have := hc8.out; omega)
              rw [hor]
              have s1 := HoX.out.stored x1.out.symm q (d + 256 * c) _ rfl
              exact ⟨k + 1, X.set q (d + 256 * c), by go_num, by omega, ⟨by rw [List.length_set]; exact x1.out, mem_set x2.out (by have := S3.out; omega), S2.out⟩, s1.1.drew, OwnQ.drew (ownsRow_setCell_other Hom.out (by intro e; simp [Value.ownBlock] at e; omega) _), fun_below hbel.out s1.2⟩
            case measure => simp [intOf] <;> omega
        · have e1 : (k : Int) / 4 = (q : Int) := by omega
          have e2 : (k : Int) % 4 = 2 := by omega
          have e3 : (k : Int).tmod 4 = 2 := by rw [Int.tmod_eq_emod_of_nonneg (by omega)]; omega
          have HQ := Lib.hid hq
          have e4 := Lib.hid (show k / 4 = q by omega)
          have e5 := Lib.hid (show k % 4 = 2 by omega)
          clear hq
          rw [e4.out] at cX fX
          have hc8 := Lib.hid (show c < 256 by have := lim8_get HmB.out k; rwa [HCC.out] at this)
          obtain ⟨s1, s2, s3⟩ := hst.out
          rw [e4.out, e5.out] at s2
          rw [e5.out] at s1 s3
          have S1 := Lib.hid s1
          have S2 := Lib.hid s2
          have S3 := Lib.hid s3
          clear s1 s2 s3 hst
          go_wp2
          go_region
          all_goals
            go_wp2
            go_roundw
            case rel =>
              have hor := or_step d c 65536 _ 16 (by decide) (by decide) (by have := S1.out; omega) hc8.out (show ((c : Int) % 4294967296 * 65536 % 4294967296) = _ by have := hc8.out; omega)
              rw [hor]
              have s1 := HoX.out.stored x1.out.symm q (d + 65536 * c) _ rfl
              exact ⟨k + 1, X.set q (d + 65536 * c), by go_num, by omega, ⟨by rw [List.length_set]; exact x1.out, mem_set x2.out (by have := S3.out; omega), S2.out⟩, s1.1.drew, OwnQ.drew (ownsRow_setCell_other Hom.out (by intro e; simp [Value.ownBlock] at e; omega) _), fun_below hbel.out s1.2⟩
            case measure => simp [intOf] <;> omega
        · have e1 : (k : Int) / 4 = (q : Int) := by omega
          have e2 : (k : Int) % 4 = 3 := by omega
          have e3 : (k : Int).tmod 4 = 3 := by rw [Int.tmod_eq_emod_of_nonneg (by omega)]; omega
          have HQ := Lib.hid hq
          have e4 := Lib.hid (show k / 4 = q by omega)
          have e5 := Lib.hid (show k % 4 = 3 by omega)
          clear hq
          rw [e4.out] at cX fX
          have hc8 := Lib.hid (show c < 256 by have := lim8_get HmB.out k; rwa [HCC.out] at this)
          obtain ⟨s1, s2, s3⟩ := hst.out
          rw [e4.out, e5.out] at s2
          rw [e5.out] at s1 s3
          have S1 := Lib.hid s1
          have S2 := Lib.hid s2
          have S3 := Lib.hid s3
          clear s1 s2 s3 hst
          go_wp2
          go_region
          all_goals
            go_wp2
            go_roundw
            case rel =>
              have hor := or_step d c 16777216 _ 24 (by decide) (by decide) (by have := S1.out; omega) hc8.out (show ((c : Int) % 4294967296 * 16777216 % 4294967296) = _ by have := hc8.out; omega)
              rw [hor]
              have s1 := HoX.out.stored x1.out.symm q (d + 16777216 * c) _ rfl
              exact ⟨k + 1, X.set q (d + 16777216 * c), by go_num, by omega, ⟨by rw [List.length_set]; exact x1.out, mem_set x2.out (by have := S3.out; omega), S2.out⟩, s1.1.drew, OwnQ.drew (ownsRow_setCell_other Hom.out (by intro e; simp [Value.ownBlock] at e; omega) _), fun_below hbel.out s1.2⟩
            case measure => simp [intOf] <;> omega
      · obtain rfl : k = M := by omega
        have hfin := Lib.hid (show X = nat32 (valB 256 l.reverse) from read_end X m _ hX.out.2.1 HE.out (by rw [HM.out]; exact hX.out.1) (by rw [hX.out.2.2, List.take_of_length_le (by rw [HM.out]; exact Nat.le_refl _), HV.out]))
        go_wp2
        go_ret2
        refine ⟨⟨_, by rw [hr.out]; rfl, ?_⟩, hbel.out⟩
        rw [hr.out, ← hfin.out]
        exact hoX
  · have hr := Lib.hid (show cutR32 (valB 256 l.reverse) = ([], 20) from cutR_large (fun h => hc (hci.2 h)))
    have hdec : decide ((1024 : Int) < (m.length : Int)) = true := by simp; omega
    clear hci
    go_wp2
    go_ret2
    refine ⟨⟨_, by rw [hr.out]; rfl, ?_⟩, HB2.out⟩
    rw [hr.out]; exact OwnQ.nil _ _ _ _

theorem OwnQ.four (q : IntKind) (w : World) (E : TypeId) (B : Nat) (hB : B ≤ w.heap.size) (x0 x1 x2 x3 : Int) (c0 c1 c2 c3 : Nat) (h0 : x0 = c0) (h1 : x1 = c1) (h2 : x2 = c2) (h3 : x3 = c3) : OwnQ q E B (w.alloc (.cells #[.int q x0, .int q x1, .int q x2, .int q x3] E)) (.slice (some ⟨w.heap.size, 0, .none⟩) 4 4) [c0, c1, c2, c3] := by
  subst h0 h1 h2 h3
  exact World.ownsRow_lit w #[.int q c0, .int q c1, .int q c2, .int q c3] 4 hB (by unfold maxLen; omega) rfl

def four (d : Nat) : List Nat := [d % 256, d / 256 % 256, d / 65536 % 256, d / 16777216 % 256]
def fours (l : List Nat) : List Nat := l.flatMap four

theorem fours_snoc (l : List Nat) (k : Nat) (hk : k < l.length) : fours (l.take (k + 1)) = fours (l.take k) ++ four (l[k]?.getD 0) := by
  rw [take_snocN l k hk, fours, List.flatMap_append, List.flatMap_singleton]; rfl

theorem fours_val {l : List Nat} (h : Lim l) : valB 256 (fours l) = val32 l := by
  induction l with
  | nil => rfl
  | cons d t ih =>
    have h1 := ih (fun x hx => h x (List.mem_cons_of_mem _ hx))
    have h2 := h d List.mem_cons_self
    rw [fours, List.flatMap_cons, valB_append, show List.flatMap four t = fours t from rfl, h1]
    simp only [four, valB, List.length_cons, List.length_nil, val32]
    omega

theorem fours_byt (l : List Nat) : Byt (fours l) := by
  intro x hx
  obtain ⟨d, _, hd⟩ := List.mem_flatMap.1 hx
  simp only [four, List.mem_cons, List.not_mem_nil, or_false] at hd
  omega

theorem fours_len (l : List Nat) : (fours l).length = 4 * l.length := by
  induction l with
  | nil => rfl
  | cons d t ih => rw [fours, List.flatMap_cons, List.length_append, show List.flatMap four t = fours t from rfl, ih]; simp [four]; omega

set_option maxHeartbeats 1000000 in
theorem bytes_any (a : Option Addr) (len cap : Nat) (l : List Nat) (w : World) (h : Reads .u32 w a len cap l) (hL : Lim l) (hm : len ≤ 4398046511104) :
    Calls Try.prog 17 #[.slice a len cap] w fun e w' => RetsQ .u8 5 w.heap.size w' (natB 256 (val32 l)).reverse e ∧ Below w.heap.size w w' := by
  obtain ⟨i0, hi, hz0, hz1, hz2⟩ := info_parts Try.info8
  have HC := Lib.hid (bare32_any a len cap l w h)
  have hb := h.bare
  have hbl := bareN_le l
  rw [h.length] at hbl
  have HV := Lib.hid (bareN_val 4294967296 l)
  have hLm : Lim (bareN l) := fun x hx => hL x (bareN_mem hx)
  clear h
  generalize bareN l = m at *
  generalize hM : m.length = M at *
  have HM := Lib.hid hM
  have HR := Lib.hid hb
  have HL := Lib.hid hLm
  have HF := Lib.hid (fours_val hLm)
  clear hb hLm hM hL
  go_enter Try.func17, Try.ntmps17
  go_wp2_with fail
  refine HC.out.mono ?_
  rintro e w1 ⟨rfl, rfl⟩
  go_wp2_with (at_make; refine wpList_make_own _ rfl _ _ 24 rfl w.heap.size 5 i0 (.int .u8 0) 1 Try.underlying24 hi hz0 hz1 _ _ _ (4 * M) rfl rfl (by omega) (by rw [hz2]; omega) (by unfold maxLen; omega) (Nat.le_refl _) ?_; intro w1 hown0 hgrow0)
  have hb0 : Below w.heap.size w w1 := (Below.refl _ _).grown hgrow0 (Nat.le_refl _) (fun _ h => by cases h)
  have HO : Hid (OwnQ .u8 5 w.heap.size w1 _ []) := Lib.hid hown0
  have HB := Lib.hid hb0
  clear hgrow0 hown0 hb0
  go_loopw [3, 14] (fun v i wr => ∃ k : Nat, k ≤ M ∧ i = .int .i64 k ∧ OwnQ .u8 5 w.heap.size wr v (fours (m.take k)) ∧ Below w.heap.size w wr) (fun _ i _ => M - (intOf i).toNat)
  case atStart => exact ⟨0, Nat.zero_le _, rfl, HO.out, HB.out⟩
  case round =>
    obtain ⟨k, hk, rfl, hown, hb⟩ := hrel
    have hsz := hb.size
    by_cases hlt : k < M
    · obtain ⟨b, off, rfl, hbl, hc⟩ := (HR.out.below hb).cells (by omega)
      have hck := hc k hlt
      have hst := Lib.hid (fours_snoc m k (by rw [HM.out]; exact hlt))
      have hlen := fours_len (m.take k)
      rw [List.length_take, HM.out, Nat.min_eq_left (by omega)] at hlen
      have HLN := Lib.hid hlen
      have hd := lim_get HL.out k
      clear hc hlen
      generalize m[k]?.getD 0 = d at *
      have HO4 := Lib.hid (OwnQ.four .u8 wr 5 w.heap.size hsz ((d : Int) % 256) ((d : Int) / 256 % 256) ((d : Int) / 65536 % 256) ((d : Int) / 16777216) _ _ _ _ (show _ = ((d % 256 : Nat) : Int) by omega) (show _ = ((d / 256 % 256 : Nat) : Int) by omega) (show _ = ((d / 65536 % 256 : Nat) : Int) by omega) (show _ = ((d / 16777216 % 256 : Nat) : Int) by omega))
      have HO1 := Lib.hid hown
      clear hown
      go_wp2_with (at_builtin; refine wpList_append_q .u8 _ rfl _ _ 24 rfl w.heap.size 5 1 i0 Try.underlying24 hi hz0 hz1 hz2 (by decide) _ (fours (m.take k)) rfl (HO1.out.alloc _) _ _ _ (four d) rfl HO4.out.reads (by have := HLN.out; omega) (by simp; omega) ?_; intro v' w2 hown2 hgrow)
      go_roundw
      case rel => exact ⟨k + 1, by omega, by go_num, by rw [hst.out]; exact hown2, hgrow _ (hb.alloc hsz _)⟩
      case measure => simp [intOf] <;> omega
    · obtain rfl : k = M := by omega
      rw [List.take_of_length_le (by rw [HM.out]; exact Nat.le_refl _)] at hown
      obtain ⟨a1, n1, c1, rfl, hn1, ho1⟩ := hown.slice
      have HN1 := Lib.hid hn1
      have hbf := bareN_le (fours m)
      have HP := Lib.hid (bareN_prefix (fours m))
      have HE := Lib.hid (bareN_eq (b := 256) (by decide) (fours_byt m))
      clear hown hn1
      have HB8 := Lib.hid (bare8_any _ _ _ _ wr ho1.reads)
      have ho2 := Lib.hid (ho1.upto (bareN (fours m)).length (by rw [HN1.out]; exact hbf))
      rw [← HP.out] at ho2
      clear ho1 hbf
      go_wp2_with fail
      refine HB8.out.mono ?_
      rintro e w3 ⟨rfl, rfl⟩
      go_wp2_with fail
      refine (rev8_any _ _ _ _ _ _ ho2.out).mono ?_
      rintro e w3 ⟨rfl, ho3, hg3⟩
      have hb3 := hg3 _ hb
      go_wp2
      go_ret
      refine ⟨⟨_, rfl, ?_⟩, hb3⟩
      have e : bareN (fours m) = natB 256 (val32 l) := by rw [HE.out, HF.out]; exact congrArg _ HV.out
      rw [e] at ho3 ⊢
      exact ho3

end Go.Proofs.Ytanimenpkinapaa
