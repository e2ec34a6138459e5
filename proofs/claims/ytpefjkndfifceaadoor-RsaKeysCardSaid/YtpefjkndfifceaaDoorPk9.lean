/-
  Texts of ours, one behind the other: Ps7 Ps8 Ps9 PsA Rs0 RsaQ RsaF RsaC
-/
import Derived.Test.YtpefjkndfifceaaDoorPk4
import Derived.Test.YtpefjkndfifceaaDoorPk8
import Derived.Laws.ResultCell
import Derived.BigQuiet
import Derived.Deep.RegionHeld
import Derived.OrdersHeld
set_option linter.unusedVariables false
set_option linter.unusedSimpArgs false

namespace Go.Proofs.YtpefjkndfifceaaDoor
open Go.RowKit
set_option maxRecDepth 100000

def partI (h n : Nat) (b : List Nat) : List Nat := (b.drop (lenP n - mSize h - 1)).take (mSize h)
def partS (h sn n : Nat) (b : List Nat) : List Nat := (maskedP h (b.take (lenP n - mSize h - 1)) (partI h n b) n).drop (lenP n - mSize h - 1 - sn)
def fineP (h sn : Nat) (b : List Nat) (n : Nat) : Bool := (testsP h sn b n).all id

theorem bare_noughts : ∀ (l : List Nat) (_ : Byt l), (Oc.bareL (u8s l)).length = 0 ↔ l = List.replicate l.length 0
  | [], _ => ⟨fun _ => rfl, fun _ => rfl⟩
  | x :: r, hb => by
    have hx : x < 256 := hb x List.mem_cons_self
    have ih := bare_noughts r (fun y hy => hb y (List.mem_cons_of_mem _ hy))
    rw [List.length_cons, List.replicate_succ, List.cons.injEq]
    unfold Oc.bareL u8s at ih ⊢
    rw [List.map_cons, List.dropWhile_cons]
    by_cases h0 : x = 0
    · subst h0
      rw [if_pos (by decide)]
      exact ih.trans ⟨fun h => ⟨rfl, h⟩, fun h => h.2⟩
    · rw [if_neg]
      · exact ⟨fun h => by simp at h, fun h => absurd h.1 h0⟩
      · intro h1
        rw [beq_iff_eq] at h1
        have h2 := congrArg UInt8.toNat h1
        rw [UInt8.toNat_ofNat', Nat.mod_eq_of_lt (show x < 2 ^ 8 from hx)] at h2
        exact h0 h2

theorem bit_255 (m i : Nat) (hi : i < 8) : (255 ^^^ m).testBit i = !(m.testBit i) := by
  rw [Nat.testBit_xor, show (255 : Nat) = 2 ^ 8 - 1 from rfl, Nat.testBit_two_pow_sub_one, decide_eq_true hi, Bool.true_xor]
theorem fits_of (x m : Nat) (hx : x < 256) (h : x &&& (255 ^^^ m) = 0) : x &&& m = x := by
  refine Nat.eq_of_testBit_eq fun i => ?_
  rw [Nat.testBit_and]
  by_cases hi : i < 8
  · have h1 := congrArg (fun y => y.testBit i) h
    simp only [Nat.testBit_and, bit_255 m i hi, Nat.zero_testBit] at h1
    cases hb : x.testBit i with
    | false => rfl
    | true =>
      rw [hb, Bool.true_and, Bool.not_eq_false'] at h1
      rw [h1]; rfl
  · rw [Nat.testBit_lt_two_pow (Nat.lt_of_lt_of_le hx (Nat.pow_le_pow_right (n := 2) (by decide) (show 8 ≤ i by omega)))]
    rfl
theorem of_fits (x m : Nat) (hx : x < 256) (h : x &&& m = x) : x &&& (255 ^^^ m) = 0 := by
  refine Nat.eq_of_testBit_eq fun i => ?_
  rw [Nat.testBit_and, Nat.zero_testBit]
  by_cases hi : i < 8
  · have h1 := congrArg (fun y => y.testBit i) h
    simp only [Nat.testBit_and] at h1
    rw [bit_255 m i hi]
    cases hb : x.testBit i with
    | false => rfl
    | true =>
      rw [hb, Bool.true_and] at h1
      rw [h1]; rfl
  · rw [Nat.testBit_lt_two_pow (Nat.lt_of_lt_of_le hx (Nat.pow_le_pow_right (n := 2) (by decide) (show 8 ≤ i by omega)))]
    rfl
theorem high_bad (x m k : Nat) (hk : k < 8) (hm : m < 2 ^ k) : (x ||| 2 ^ k) &&& (255 ^^^ m) ≠ 0 := fun h => by
  have h1 := congrArg (fun y => y.testBit k) h
  simp only [Nat.testBit_and, bit_255 m k hk, Nat.zero_testBit, Nat.testBit_or, Nat.testBit_two_pow_self, Nat.testBit_lt_two_pow hm, Bool.or_true, Bool.not_false, Bool.and_true] at h1
  cases h1

theorem cut_three {X I : List Nat} {K S : Nat} (z : Nat) (hX : X.length = K) (hI : I.length = S) : (X ++ I ++ [z]).take K = X ∧ ((X ++ I ++ [z]).drop K).take S = I ∧ (X ++ I ++ [z]).drop (K + S) = [z] := by
  refine ⟨?_, ?_, ?_⟩
  · rw [List.append_assoc, List.take_left' hX]
  · rw [List.append_assoc, List.drop_left' hX, List.take_left' hI]
  · rw [List.drop_left' (by rw [List.length_append]; omega)]
theorem part_cut {h n K S : Nat} {X I : List Nat} (z : Nat) (hX : X.length = K) (hI : I.length = S) (hS : mSize h = S) (hN : lenP n = K + S + 1) : partI h n (X ++ I ++ [z]) = I := by
  unfold partI
  rw [hS, hN, show K + S + 1 - S - 1 = K by omega]
  exact (cut_three z hX hI).2.1
theorem parts_cut {h n K S : Nat} {X I : List Nat} (z sn : Nat) (hX : X.length = K) (hI : I.length = S) (hS : mSize h = S) (hN : lenP n = K + S + 1) : partS h sn n (X ++ I ++ [z]) = (maskedP h X I n).drop (K - sn) := by
  unfold partS
  rw [part_cut z hX hI hS hN, hS, hN, show K + S + 1 - S - 1 = K by omega, (cut_three z hX hI).1]
theorem fine_cut {h n K S a : Nat} {X I : List Nat} (z sn : Nat) (hX : X.length = K) (hI : I.length = S) (hS : mSize h = S) (hN : lenP n = K + S + 1) (ha : K = a + 1 + sn) :
    fineP h sn (X ++ I ++ [z]) n = true ↔ z = 188 ∧ X[0]?.getD 0 &&& (255 ^^^ lowP n) = 0 ∧ (Oc.bareL (u8s ((maskedP h X I n).take a))).length = 0 ∧ (((maskedP h X I n).drop a).take 1)[0]?.getD 0 = 1 := by
  obtain ⟨h1, h2, h3⟩ := cut_three z hX hI
  unfold fineP testsP
  dsimp only
  rw [hS, hN, show K + S + 1 - S - 1 = K by omega, show K - sn - 1 = a by omega, h1, h2, h3]
  simp only [List.all_cons, List.all_nil, id_eq, Bool.and_true, Bool.true_and, Bool.and_eq_true, beq_iff_eq]
  rfl

theorem list_last (l : List Nat) (n : Nat) (h : l.length = n + 1) : ∃ m z, l = m ++ [z] ∧ m.length = n := by
  refine ⟨l.dropLast, l.getLast (by intro e; rw [e] at h; simp at h), (List.dropLast_concat_getLast _).symm, by rw [List.length_dropLast, h]; rfl⟩
theorem list_parts (b : List Nat) (K S : Nat) (h : b.length = K + S + 1) : ∃ X I z, b = X ++ I ++ [z] ∧ X.length = K ∧ I.length = S := by
  obtain ⟨m, z, rfl, hm⟩ := list_last b (K + S) h
  exact ⟨m.take K, m.drop K, z, by rw [List.take_append_drop], by rw [List.length_take]; omega, by rw [List.length_drop]; omega⟩

theorem room_parts {h : Nat} {sn : Nat} {n : Nat} (hr : RoomP (h : Int) (sn : Int) (n : Int)) : ∃ K S a, mSize h = S ∧ lenP n = K + S + 1 ∧ K = a + 1 + sn := by
  obtain ⟨-, -, -, -, hfit⟩ := hr
  rw [Int.toNat_natCast, Int.toNat_natCast] at hfit
  exact ⟨lenP n - mSize h - 1, mSize h, lenP n - mSize h - 1 - sn - 1, rfl, by omega, by omega⟩

theorem block_fits (n a : Nat) (s : List Nat) : FitsP (lowP n) (List.replicate a 0 ++ [1] ++ s) := by
  cases a with
  | succ a => simp [FitsP, List.replicate_succ]
  | zero =>
    have h2 := lenP_bits n
    have h3 : ∀ k, k < 8 → 1 &&& (255 / 2 ^ k) = 1 := by decide
    have := h3 _ h2.1
    simpa [FitsP, lowP] using this

/-- What was encoded is read as it was. -/
theorem ems_fine {h : Nat} (hh : IsHash h) (d s : List Nat) {sn n : Nat} (hsl : s.length = sn) (bs : Byt s) (hr : RoomP (h : Int) (sn : Int) (n : Int)) :
    fineP h sn (emsP h d s n) n = true ∧ partI h n (emsP h d s n) = innerP h d s ∧ partS h sn n (emsP h d s n) = s ∧ (emsP h d s n).length = lenP n ∧ Byt (emsP h d s n) := by
  obtain ⟨K, S, a, hS, hN, ha⟩ := room_parts hr
  have he : emsP h d s n = maskedP h (List.replicate a 0 ++ [1] ++ s) (innerP h d s) n ++ innerP h d s ++ [188] := by
    unfold emsP blockP
    rw [hN, hS, hsl, show K + S + 1 - S - 1 - sn - 1 = a by omega]
  have hbl : (List.replicate a 0 ++ [1] ++ s).length = K := by simp [hsl]; omega
  have hX : (maskedP h (List.replicate a 0 ++ [1] ++ s) (innerP h d s) n).length = K := by rw [masked_len hh, hbl]
  have hI : (innerP h d s).length = S := by rw [innerP_len hh, hS]
  have hIb : Byt (innerP h d s) := mHash_byt hh _
  have hBb : Byt (List.replicate a 0 ++ [1] ++ s) := fun x hx => by
    rcases List.mem_append.1 hx with hx | hx
    · rcases List.mem_append.1 hx with hx | hx
      · rw [(List.mem_replicate.1 hx).2]; decide
      · rw [List.mem_singleton.1 hx]; decide
    · exact bs x hx
  have hXb := masked_byt hh (innerP h d s) n hBb
  have hback := masked_back hh (List.replicate a 0 ++ [1] ++ s) (innerP h d s) n (block_fits n a s)
  have hfit := masked_fits h (List.replicate a 0 ++ [1] ++ s) (innerP h d s) n
  rw [he]
  generalize maskedP h (List.replicate a 0 ++ [1] ++ s) (innerP h d s) n = X at *
  generalize innerP h d s = I at *
  refine ⟨?_, part_cut 188 hX hI hS hN, ?_, ?_, ?_⟩
  · refine (fine_cut 188 sn hX hI hS hN ha).2 ⟨rfl, of_fits _ _ ?_ hfit, ?_, ?_⟩
    · cases X with
      | nil => decide
      | cons x r => exact hXb x List.mem_cons_self
    · rw [hback, List.append_assoc, List.take_left' (by simp), bare_noughts _ (fun x hx => by rw [(List.mem_replicate.1 hx).2]; decide), List.length_replicate]
    · rw [hback, List.append_assoc, List.drop_left' (by simp)]
      rfl
  · rw [parts_cut 188 sn hX hI hS hN, hback, List.drop_left' (by simp; omega)]
  · rw [List.length_append, List.length_append, hX, hI, hN]; rfl
  · intro x hx
    rcases List.mem_append.1 hx with hx | hx
    · rcases List.mem_append.1 hx with hx | hx
      · exact hXb x hx
      · exact hIb x hx
    · rw [List.mem_singleton.1 hx]; decide

/-- What is read so was encoded. -/
theorem fine_only {h : Nat} (hh : IsHash h) (b : List Nat) {sn n : Nat} (hb : Byt b) (hl : b.length = lenP n) (hr : RoomP (h : Int) (sn : Int) (n : Int)) (hf : fineP h sn b n = true) :
    (partS h sn n b).length = sn ∧ Byt (partS h sn n b) ∧ (partI h n b).length = mSize h ∧ ∀ d, emsP h d (partS h sn n b) n = b ↔ innerP h d (partS h sn n b) = partI h n b := by
  obtain ⟨K, S, a, hS, hN, ha⟩ := room_parts hr
  obtain ⟨X, I, z, rfl, hX, hI⟩ := list_parts b K S (by rw [hl, hN])
  obtain ⟨rfl, h3, h4, h5⟩ := (fine_cut z sn hX hI hS hN ha).1 hf
  have hXb : Byt X := fun x hx => hb x (List.mem_append_left _ (List.mem_append_left _ hx))
  have hXf : FitsP (lowP n) X := fits_of _ _ (by
    cases X with
    | nil => decide
    | cons x r => exact hXb x List.mem_cons_self) h3
  have hback := masked_back hh X I n hXf
  have hM := masked_len hh X I n
  have hMb := masked_byt hh I n hXb
  rw [parts_cut 188 sn hX hI hS hN, part_cut 188 hX hI hS hN]
  have hml : (maskedP h (maskedP h X I n) I n) = X := hback
  generalize maskedP h X I n = M at *
  rw [hX] at hM
  rw [bare_noughts _ (fun x hx => hMb x (List.mem_of_mem_take hx)), List.length_take, hM, Nat.min_eq_left (by omega)] at h4
  have hM2 : M = List.replicate a 0 ++ [1] ++ M.drop (K - sn) := by
    have e1 := List.take_append_drop a M
    have e2 := List.take_append_drop 1 (M.drop a)
    rw [List.drop_drop] at e2
    have e3 : (M.drop a).take 1 = [1] := by
      cases hd : M.drop a with
      | nil => have := congrArg List.length hd; rw [List.length_drop, hM] at this; simp at this; omega
      | cons x r => rw [hd] at h5; simp at h5; rw [h5]; rfl
    rw [e3] at e2
    rw [h4, ← e2] at e1
    rw [show K - sn = a + 1 by omega, List.append_assoc]
    exact e1.symm
  have hsl : (M.drop (K - sn)).length = sn := by rw [List.length_drop, hM]; omega
  refine ⟨hsl, fun x hx => hMb x (List.mem_of_mem_drop hx), hI.trans hS.symm, fun d => ?_⟩
  generalize M.drop (K - sn) = s at *
  have he : emsP h d s n = maskedP h (List.replicate a 0 ++ [1] ++ s) (innerP h d s) n ++ innerP h d s ++ [188] := by
    unfold emsP blockP
    rw [hN, hS, hsl, show K + S + 1 - S - 1 - sn - 1 = a by omega]
  constructor
  · intro e
    have hI2 : (innerP h d s).length = S := by rw [innerP_len hh, hS]
    have hX2 : (maskedP h (List.replicate a 0 ++ [1] ++ s) (innerP h d s) n).length = K := by
      rw [masked_len hh]
      simp [hsl]; omega
    have e2 := congrArg (partI h n) e
    rw [he, part_cut 188 hX2 hI2 hS hN, part_cut 188 hX hI hS hN] at e2
    exact e2
  · intro e
    rw [he, e, ← hM2, hml]
end Go.Proofs.YtpefjkndfifceaaDoor

namespace Go.Proofs.YtpefjkndfifceaaDoor
open Go.RowKit
attribute [local go_sem] Oper.semAt_some
set_option maxRecDepth 100000

theorem encode_no (h : Int) (da : Option Addr) (dn dc : Nat) (sa : Option Addr) (sn sc : Nat) (n : Int) (hdn : dn ≤ 9223372036854775807) (hsn : sn ≤ 9223372036854775807) (n0 : -9223372036854775808 ≤ n) (n1 : n ≤ 9223372036854775807) (w : World) (hk : Kinds w) (hno : ¬ (RoomP h (sn : Int) n ∧ dn = mSize h.toNat)) :
    Calls Tryd.prog 34 #[.int .i64 h, .slice da dn dc, .slice sa sn sc, .int .i64 n] w fun e w' => e = .returned (.tuple #[.slice none 0 0, .int .i64 90]) ∧ Below w.heap.size w w' := by
  have HK := Lib.hid hk
  clear hk
  by_cases hr : RoomP h (sn : Int) n
  · have HRD := Lib.hid (show decide (RoomP h (sn : Int) n) = true from decide_eq_true hr)
    have hne : dn ≠ mSize h.toNat := fun e => hno ⟨hr, e⟩
    obtain ⟨hh, -⟩ := hr
    obtain ⟨g, rfl⟩ : ∃ g : Nat, h = (g : Int) := ⟨h.toNat, by rcases hh with e | e | e | e <;> omega⟩
    rw [Int.toNat_natCast] at hh hne
    have HH := Lib.hid hh
    have hS := mSize_le hh
    obtain ⟨S, hSS⟩ : ∃ S, mSize g = S := ⟨_, rfl⟩
    rw [hSS] at hne hS
    have HSS := Lib.hid hSS
    have t1 : ((dn : Int) != (S : Int)) = true := by simp; omega
    clear hno hh hSS hne
    go_enter Tryd.func34, Tryd.ntmps34
    go_wp2_with fail
    refine (room_p (g : Int) (sn : Int) n (by omega) (by omega) n0 n1 _ HK.out).mono ?_
    rintro e w1 ⟨rfl, hb⟩
    rw [HRD.out]
    have HB := Lib.hid hb
    clear hb
    go_wp2_with fail
    refine (size_yes g HH.out _ (HK.out.below HB.out)).mono ?_
    rintro e w2 ⟨rfl, hb⟩
    rw [HSS.out]
    have HB := Lib.hid (HB.out.trans (hb.mono HB.out.size))
    clear hb
    go_wp2
    go_ret2
    exact ⟨rfl, HB.out⟩
  · have HRD := Lib.hid (show decide (RoomP h (sn : Int) n) = false from decide_eq_false hr)
    clear hr hno
    go_enter Tryd.func34, Tryd.ntmps34
    go_wp2_with fail
    refine (room_p h (sn : Int) n (by omega) (by omega) n0 n1 _ HK.out).mono ?_
    rintro e w1 ⟨rfl, hb⟩
    rw [HRD.out]
    have HB := Lib.hid hb
    clear hb
    go_wp2
    go_ret2
    exact ⟨rfl, HB.out⟩

theorem PartsAt.kept {bp : Nat} {I s : List Nat} {W W' : World} {row : Option Nat} (h : PartsAt bp I s W) (hg : W.grownBy W' row) (hr : ∀ r, row = some r → ∃ o : Obj, W.heap[r]? = some o ∧ o.isCells = false) : PartsAt bp I s W' := by
  obtain ⟨ia, ic, sa, sc, B, hB, h0, h1, h2, h3⟩ := h
  have hlt := World.block_lt_of_cell? W ⟨bp, 0, none⟩ h0
  have hne : some bp ≠ row := fun e => by
    obtain ⟨o, ho, hc⟩ := hr bp e.symm
    simp only [World.cell?, ho] at h0
    cases o <;> simp [Obj.isCells] at h0 hc
  exact ⟨ia, ic, sa, sc, B, hB, (World.cell?_of_block (a := ⟨bp, 0, none⟩) (hg.block bp hlt hne)).trans h0, (World.cell?_of_block (a := ⟨bp, 1, none⟩) (hg.block bp hlt hne)).trans h1, h2.keptW hg hr, h3.keptW hg hr⟩

theorem two_cells (W : World) (B : Nat) (v0 v1 u0 u1 : Value) (t : TypeId) (h : W.heap[B]? = some (.cells #[u0, u1] t)) : ((W.setCell ⟨B, 0, none⟩ v0).setCell ⟨B, 1, none⟩ v1).cell? ⟨B, 0, none⟩ = some v0 ∧ ((W.setCell ⟨B, 0, none⟩ v0).setCell ⟨B, 1, none⟩ v1).cell? ⟨B, 1, none⟩ = some v1 := by
  have c0 : W.cell? ⟨B, 0, none⟩ = some u0 := by simp [World.cell?, h]
  have c1 : W.cell? ⟨B, 1, none⟩ = some u1 := by simp [World.cell?, h]
  clear h
  constructor <;> go_simp
theorem alloc_q (W : World) (o : Obj) (k : Nat) (hk : W.heap.size = k) : (W.alloc o).heap[k]? = some o ∧ (W.alloc o).heap.size = k + 1 ∧ (∀ (i : Nat) (v : Obj), W.heap[i]? = some v → (W.alloc o).heap[i]? = some v) ∧ ∀ B X, Below B X W → B ≤ k → Below B X (W.alloc o) := by
  subst hk
  exact ⟨World.alloc_heap_new W o, World.size_alloc W o, fun i v h => (Below.heap_alloc _ _ _ (Array.getElem?_eq_some_iff.1 h).1).trans h, fun B X h hB => h.alloc hB o⟩
theorem boxes_m (W : World) (o0 o1 o2 o3 o4 o5 o6 : Obj) : ∃ W0, ((((((W.alloc o0).alloc o1).alloc o2).alloc o3).alloc o4).alloc o5).alloc o6 = W0 ∧ W0.heap.size = W.heap.size + 7 ∧ Below W.heap.size W W0 ∧
    W0.heap[W.heap.size]? = some o0 ∧ W0.heap[W.heap.size + 1]? = some o1 ∧ W0.heap[W.heap.size + 2]? = some o2 ∧ W0.heap[W.heap.size + 3]? = some o3 ∧ W0.heap[W.heap.size + 4]? = some o4 ∧ W0.heap[W.heap.size + 5]? = some o5 ∧ W0.heap[W.heap.size + 6]? = some o6 := by
  obtain ⟨k, hk⟩ : ∃ k, W.heap.size = k := ⟨_, rfl⟩
  rw [hk]
  have b0 : Below k W W := hk ▸ Below.refl _ W
  obtain ⟨a0, s0, p0, c0⟩ := alloc_q W o0 k hk
  replace c0 := c0 k W b0 (by omega)
  generalize W.alloc o0 = W1 at *
  obtain ⟨a1, s1, p1, c1⟩ := alloc_q W1 o1 _ s0
  replace c1 := c1 k W c0 (by omega)
  generalize W1.alloc o1 = W2 at *
  obtain ⟨a2, s2, p2, c2⟩ := alloc_q W2 o2 _ s1
  replace c2 := c2 k W c1 (by omega)
  generalize W2.alloc o2 = W3 at *
  obtain ⟨a3, s3, p3, c3⟩ := alloc_q W3 o3 _ s2
  replace c3 := c3 k W c2 (by omega)
  generalize W3.alloc o3 = W4 at *
  obtain ⟨a4, s4, p4, c4⟩ := alloc_q W4 o4 _ s3
  replace c4 := c4 k W c3 (by omega)
  generalize W4.alloc o4 = W5 at *
  obtain ⟨a5, s5, p5, c5⟩ := alloc_q W5 o5 _ s4
  replace c5 := c5 k W c4 (by omega)
  generalize W5.alloc o5 = W6 at *
  obtain ⟨a6, s6, p6, c6⟩ := alloc_q W6 o6 _ s5
  replace c6 := c6 k W c5 (by omega)
  exact ⟨_, rfl, s6, c6, p6 _ _ (p5 _ _ (p4 _ _ (p3 _ _ (p2 _ _ (p1 _ _ a0))))), p6 _ _ (p5 _ _ (p4 _ _ (p3 _ _ (p2 _ _ a1)))), p6 _ _ (p5 _ _ (p4 _ _ (p3 _ _ a2))), p6 _ _ (p5 _ _ (p4 _ _ a3)), p6 _ _ (p5 _ _ a4), p6 _ _ a5, a6⟩

end Go.Proofs.YtpefjkndfifceaaDoor

namespace Go.Proofs.YtpefjkndfifceaaDoor
open Go.RowKit
set_option maxRecDepth 100000

/-- Bytes that look like an encoding. -/
def GoodP (h sn n : Int) (b : List Nat) : Prop := RoomP h sn n ∧ b.length = lenP n.toNat ∧ fineP h.toNat sn.toNat b n.toNat = true
/-- Bytes that are a digest's encoding. -/
def VerP (h : Int) (d : List Nat) (sn n : Int) (b : List Nat) : Prop := GoodP h sn n b ∧ d.length = mSize h.toNat ∧ innerP h.toNat d (partS h.toNat sn.toNat n.toNat b) = partI h.toNat n.toNat b

theorem strOf_neP {l m : List Nat} (hl : Byt l) (hm : Byt m) (h : l ≠ m) : ((strOf (u8s l)).toList == (strOf (u8s m)).toList) = false := by
  rw [Bool.eq_false_iff]
  intro he
  have h1 : (strOf (u8s l)).toList = (strOf (u8s m)).toList := by simpa using he
  have h2 : ∀ b : List UInt8, (strOf b).toList = b := fun b => by simp [strOf]
  rw [h2, h2] at h1
  exact h (u8s_inj hl hm h1)
end Go.Proofs.YtpefjkndfifceaaDoor

namespace Go.Proofs.YtpefjkndfifceaaDoor
open Go.RowKit
set_option maxRecDepth 100000

/-- An operation whose guard is met goes as one without a guard. -/
theorem wpList_unguard {P : Program} {ops : Array Oper} {Q : Exit → Act → World → Prop} {o : Oper} {rest : List Oper} {a : Act} {w : World} (hw : Region.wanted o (yielded ops a.tmps) = true) (h : wpList P ops Q ({ o with guard := none } :: rest) a w) : wpList P ops Q (o :: rest) a w := by
  unfold wpList at h ⊢
  rw [if_pos hw]
  rw [if_pos (show Region.wanted { o with guard := none } (yielded ops a.tmps) = true from rfl)] at h
  exact h
/-- A digest, cut, or filled up. -/
def fillP (g : Nat) (A : List Nat) : List Nat := (A ++ List.replicate 64 0).take (mSize g)
theorem fillP_len {g : Nat} (hg : IsHash g) (A : List Nat) : (fillP g A).length = mSize g := by
  have := mSize_le hg
  rw [fillP, List.length_take, List.length_append, List.length_replicate]
  omega
theorem fillP_byt {g : Nat} {A : List Nat} (h : Byt A) : Byt (fillP g A) := fun x hx => by
  rcases List.mem_append.1 (List.mem_of_mem_take hx) with h1 | h1
  · exact h x h1
  · rw [List.eq_of_mem_replicate h1]; decide

/-- What was encoded is verified. -/
theorem ver_ems {g : Nat} (hh : IsHash g) (d s : List Nat) {sn n : Nat} (hsl : s.length = sn) (bs : Byt s) (hd : d.length = mSize g) (hr : RoomP (g : Int) (sn : Int) (n : Int)) : VerP (g : Int) d (sn : Int) (n : Int) (emsP g d s n) := by
  obtain ⟨h1, h2, h3, h4, -⟩ := ems_fine hh d s hsl bs hr
  refine ⟨⟨hr, ?_, ?_⟩, ?_, ?_⟩ <;> simp only [Int.toNat_natCast]
  · exact h4
  · exact h1
  · exact hd
  · rw [h2, h3]
theorem good_ems {g : Nat} (hh : IsHash g) (d s : List Nat) {sn n : Nat} (hsl : s.length = sn) (bs : Byt s) (hr : RoomP (g : Int) (sn : Int) (n : Int)) : GoodP (g : Int) (sn : Int) (n : Int) (emsP g d s n) := by
  obtain ⟨h1, h2, h3, h4, -⟩ := ems_fine hh d s hsl bs hr
  refine ⟨hr, ?_, ?_⟩ <;> simp only [Int.toNat_natCast]
  · exact h4
  · exact h1
/-- Its last byte, and its first. -/
theorem ems_last {g : Nat} (hh : IsHash g) (d s : List Nat) {sn n : Nat} (hsl : s.length = sn) (bs : Byt s) (hr : RoomP (g : Int) (sn : Int) (n : Int)) : ∃ m, emsP g d s n = m ++ [188] ∧ m.length + 1 = lenP n := by
  have h4 := (ems_fine hh d s hsl bs hr).2.2.2.1
  unfold emsP at h4 ⊢
  refine ⟨_, rfl, ?_⟩
  rw [List.length_append] at h4
  exact h4
/-- An encoding with another last byte, or with bits above, or of another length, is none. -/
theorem bad_last {h : Int} {sn n : Int} (m : List Nat) (z : Nat) (hz : z ≠ 188) (d : List Nat) : ¬ VerP h d sn n (m ++ [z]) := fun hv => by
  obtain ⟨⟨hr, hl, hf⟩, -⟩ := hv
  obtain ⟨hh, hs, hn2, hn5, hfit⟩ := hr
  obtain ⟨g, rfl⟩ : ∃ g : Nat, h = (g : Int) := ⟨h.toNat, by rcases hh with e | e | e | e <;> omega⟩
  obtain ⟨s, rfl⟩ : ∃ s : Nat, sn = (s : Int) := ⟨sn.toNat, by omega⟩
  obtain ⟨k, rfl⟩ : ∃ m : Nat, n = (m : Int) := ⟨n.toNat, by omega⟩
  obtain ⟨K, S, a, hS, hN, ha⟩ := room_parts (h := g) (sn := s) (n := k) ⟨hh, hs, hn2, hn5, hfit⟩
  simp only [Int.toNat_natCast] at hl hf
  have hm : m.length = K + S := by rw [List.length_append, hN] at hl; simpa using hl
  have e : m ++ [z] = m.take K ++ m.drop K ++ [z] := by rw [List.take_append_drop]
  rw [e] at hf
  exact hz ((fine_cut z s (by rw [List.length_take]; omega) (by rw [List.length_drop]; omega) hS hN ha).1 hf).1
theorem bad_len {h : Int} {sn n : Int} (b : List Nat) (hl : b.length ≠ lenP n.toNat) (d : List Nat) : ¬ VerP h d sn n b := fun hv => hl hv.1.2.1
theorem bad_high {h : Int} {sn : Int} {n : Nat} (x : Nat) (r : List Nat) (k : Nat) (hk : k < 8) (hm : lowP n < 2 ^ k) (d : List Nat) : ¬ VerP h d sn (n : Int) ((x ||| 2 ^ k) :: r) := fun hv => by
  obtain ⟨⟨hr, hl, hf⟩, -⟩ := hv
  obtain ⟨hh, hs, hn2, hn5, hfit⟩ := hr
  obtain ⟨g, rfl⟩ : ∃ g : Nat, h = (g : Int) := ⟨h.toNat, by rcases hh with e | e | e | e <;> omega⟩
  obtain ⟨s, rfl⟩ : ∃ s : Nat, sn = (s : Int) := ⟨sn.toNat, by omega⟩
  obtain ⟨K, S, a, hS, hN, ha⟩ := room_parts (h := g) (sn := s) (n := n) ⟨hh, hs, hn2, hn5, hfit⟩
  simp only [Int.toNat_natCast] at hl hf
  obtain ⟨X, I, z, e, hX, hI⟩ := list_parts ((x ||| 2 ^ k) :: r) K S (by rw [hl, hN])
  rw [e] at hf
  have h3 := ((fine_cut z s hX hI hS hN ha).1 hf).2.1
  cases X with
  | nil => simp at hX; omega
  | cons y X =>
    have hy : x ||| 2 ^ k = y := (List.cons.inj e).1
    rw [← hy] at h3
    exact high_bad x (lowP n) k hk hm h3
theorem pencode_any (h : Int) (da : Option Addr) (dn dc : Nat) (d : List Nat) (sa : Option Addr) (sn sc : Nat) (s : List Nat) (n : Int) (n0 : -9223372036854775808 ≤ n) (n1 : n ≤ 9223372036854775807) (hn : n ≤ 100000 ∨ 524288 < n) (w : World) (hk : Kinds w) (hd : Reads .u8 w da dn dc d) (hs : Reads .u8 w sa sn sc s) (bd : Byt d) (bs : Byt s) :
    Calls Tryd.prog 34 #[.int .i64 h, .slice da dn dc, .slice sa sn sc, .int .i64 n] w fun e w' => Below w.heap.size w w' ∧
      (((RoomP h (sn : Int) n ∧ dn = mSize h.toNat) ∧ ∃ g, e = .returned (.tuple #[.slice (some ⟨g, 0, none⟩) (lenP n.toNat) (lenP n.toNat), .int .i64 0]) ∧ OwnQ .u8 5 w.heap.size w' (.slice (some ⟨g, 0, none⟩) (lenP n.toNat) (lenP n.toNat)) (emsP h.toNat d s n.toNat)) ∨
      (¬ (RoomP h (sn : Int) n ∧ dn = mSize h.toNat) ∧ e = .returned (.tuple #[.slice none 0 0, .int .i64 90]))) := by
  by_cases hr : RoomP h (sn : Int) n ∧ dn = mSize h.toNat
  · obtain ⟨hrm, hdn⟩ := hr
    have hrm' := hrm
    obtain ⟨hh, hs0, hn2, hn5, hfit⟩ := hrm
    obtain ⟨g, rfl⟩ : ∃ g : Nat, h = (g : Int) := ⟨h.toNat, by rcases hh with e | e | e | e <;> omega⟩
    obtain ⟨m, rfl⟩ : ∃ m : Nat, n = (m : Int) := ⟨n.toNat, by omega⟩
    simp only [Int.toNat_natCast] at hh hdn ⊢
    refine (encode_p g hh da dn dc d sa sn sc s m w hk hd hs bd bs hrm' hdn (by omega)).mono ?_
    rintro e w' ⟨he, hb⟩
    exact ⟨hb, .inl ⟨⟨hrm', hdn⟩, he⟩⟩
  · refine (encode_no h da dn dc sa sn sc n (by have := hd.len_le; unfold maxLen at this; exact this) (by have := hs.len_le; unfold maxLen at this; exact this) n0 n1 w hk hr).mono ?_
    rintro e w' ⟨he, hb⟩
    exact ⟨hb, .inr ⟨hr, he⟩⟩
theorem room_dec {h s b : Int} (h1 : RoomP h s b) : decide (RoomP h s b) = true := decide_eq_true h1
theorem room_no {h s b : Int} (h1 : ¬ RoomP h s b) : decide (RoomP h s b) = false := decide_eq_false h1
theorem byt_rep (n : Nat) : Byt (List.replicate n 0) := fun x hx => by rw [List.eq_of_mem_replicate hx]; decide

end Go.Proofs.YtpefjkndfifceaaDoor

namespace Go.Proofs.YtpefjkndfifceaaDoor
open Go.RowKit
set_option maxRecDepth 100000

instance isHashDecR (h : Nat) : Decidable (IsHash h) := by unfold IsHash; infer_instance
def rSize (h : Int) : Int := if IsHash h.toNat then (mSize h.toNat : Int) else 0
theorem rSize_yes {h : Nat} (hh : IsHash h) : rSize (h : Int) = (mSize h : Int) := by simp [rSize, hh]
theorem rSize_no {h : Int} (hh : ¬ IsHash h.toNat) : rSize h = 0 := by unfold rSize; rw [if_neg hh]
theorem isHash_int (h : Int) : (h = 1 ∨ h = 2 ∨ h = 3 ∨ h = 4) ∨ ¬ IsHash h.toNat ∧ h ≠ 1 ∧ h ≠ 2 ∧ h ≠ 3 ∧ h ≠ 4 := by
  unfold IsHash
  omega
theorem rsize_any (h : Int) (w : World) : Calls Tryd.prog 20 #[.int .i64 h] w fun e w' => e = .returned (.int .i64 (rSize h)) ∧ w = w' := by
  rcases isHash_int h with (rfl | rfl | rfl | rfl) | ⟨hn, h1, h2, h3, h4⟩
  · rw [show rSize 1 = 28 by decide]
    go_enter Tryd.func20, Tryd.ntmps20
    go_wp2
    go_ret
    exact ⟨rfl, rfl⟩
  · rw [show rSize 2 = 32 by decide]
    go_enter Tryd.func20, Tryd.ntmps20
    go_wp2
    go_ret
    exact ⟨rfl, rfl⟩
  · rw [show rSize 3 = 48 by decide]
    go_enter Tryd.func20, Tryd.ntmps20
    go_wp2
    go_ret
    exact ⟨rfl, rfl⟩
  · rw [show rSize 4 = 64 by decide]
    go_enter Tryd.func20, Tryd.ntmps20
    go_wp2
    go_ret
    exact ⟨rfl, rfl⟩
  · rw [rSize_no hn]
    have t1 : (h == 1) = false := by simpa using h1
    have t2 : (h == 2) = false := by simpa using h2
    have t3 : (h == 3) = false := by simpa using h3
    have t4 : (h == 4) = false := by simpa using h4
    clear hn h1 h2 h3 h4
    go_enter Tryd.func20, Tryd.ntmps20
    go_wp2
    go_ret
    exact ⟨rfl, rfl⟩
end Go.Proofs.YtpefjkndfifceaaDoor

namespace Go.Proofs.YtpefjkndfifceaaDoor
open Go.RowKit
set_option maxRecDepth 100000

/-- A hash's size, or 0. -/
def hSz (h : Int) : Nat := if IsHash h.toNat then mSize h.toNat else 0
theorem hSz_le (h : Int) : hSz h ≤ 64 := by
  unfold hSz
  split
  · next hh => exact (mSize_le hh).2
  · exact Nat.zero_le _
theorem hSz_yes {h : Int} (hh : IsHash h.toNat) : hSz h = mSize h.toNat := if_pos hh
theorem hSz_no {h : Int} (hh : ¬ IsHash h.toNat) : hSz h = 0 := if_neg hh
theorem rSize_hSz (h : Int) : rSize h = (hSz h : Int) := by
  unfold rSize hSz
  split <;> rfl
theorem isHash_nat {h : Int} (hh : IsHash h.toNat) : h = (h.toNat : Int) := by
  rcases hh with e | e | e | e <;> omega
theorem msize_any (h : Int) (w : World) (hk : Kinds w) : Calls Tryd.prog 18 #[.int .i64 h] w fun e w' => e = .returned (.int .i64 (hSz h : Nat)) ∧ Below w.heap.size w w' := by
  by_cases hh : IsHash h.toNat
  · have e := isHash_nat hh
    rw [hSz_yes hh]
    generalize h.toNat = g at *
    subst e
    exact size_yes g hh w hk
  · rw [hSz_no hh]
    exact size_no h (by unfold IsHash at hh; omega) w
/-- Pss' encoding, or the error. -/
def pssV (h : Int) (d s : List Nat) (b : Int) : List Nat × Int := if RoomP h (s.length : Int) b ∧ d.length = mSize h.toNat then (emsP h.toNat d s b.toNat, 0) else ([], 90)
/-- What is signed, or the error (the code's). -/
def sgnV (N : List Nat) (way h : Int) (d s : List Nat) : List Nat × Int := if way = 1 then encR h d (N.length : Int) else if way = 2 then (if s.length = hSz h then pssV h d s ((bitsN (numV N) : Int) - 1) else ([], 101)) else ([], 101)
/-- Is there room? -/
def RoomK (N E : List Nat) (way h : Int) : Prop := PubP N E ∧ (sgnV N way h (List.replicate (hSz h) 0) (List.replicate (hSz h) 0)).2 = 0
theorem encR_ok {h : Int} {d : List Nat} {n : Int} : (encR h d n).2 = 0 ↔ IsHash h.toNat ∧ d.length = mSize h.toNat ∧ (d.length : Int) + 30 ≤ n ∧ n ≤ 65536 := by
  unfold encR
  by_cases h1 : FrameOk h d.length
  · rw [if_pos h1]
    by_cases h2 : n < (d.length : Int) + 30 ∨ 65536 < n
    · rw [if_pos h2]
      exact ⟨fun e => (by cases e), fun e => (by omega)⟩
    · rw [if_neg h2]
      exact ⟨fun _ => ⟨h1.1, h1.2, by omega, by omega⟩, fun _ => rfl⟩
  · rw [if_neg h1]
    exact ⟨fun e => (by cases e), fun e => absurd ⟨e.1, e.2.1⟩ h1⟩
theorem encR_yes {h : Int} {d : List Nat} {n : Int} (h1 : (encR h d n).2 = 0) : (encR h d n).1 = encL h.toNat d n.toNat := by
  obtain ⟨a, b, c, e⟩ := encR_ok.1 h1
  unfold encR
  rw [if_pos (show FrameOk h d.length from ⟨a, b⟩), if_neg (by omega)]
theorem encR_no {h : Int} {d : List Nat} {n : Int} (h1 : (encR h d n).2 ≠ 0) : (encR h d n).1 = [] := by
  unfold encR at h1 ⊢
  split
  · next hf =>
    rw [if_pos hf] at h1
    split
    · rfl
    · next hg => rw [if_neg hg] at h1; exact absurd rfl h1
  · rfl
theorem pssV_ok {h : Int} {d s : List Nat} {b : Int} : (pssV h d s b).2 = 0 ↔ RoomP h (s.length : Int) b ∧ d.length = mSize h.toNat := by
  unfold pssV
  by_cases h1 : RoomP h (s.length : Int) b ∧ d.length = mSize h.toNat
  · rw [if_pos h1]; exact ⟨fun _ => h1, fun _ => rfl⟩
  · rw [if_neg h1]; exact ⟨fun e => (by cases e), fun e => absurd e h1⟩
theorem pub_bits {N E : List Nat} (hp : PubP N E) : numV N = nV N ∧ 256 ≤ bitsN (nV N) ∧ bitsN (nV N) ≤ 4096 := ⟨by unfold numV; rw [if_pos hp.1], hp.2.2.1, hp.2.2.2.1⟩
/-- A key's bytes are as many as its bits ask. -/
theorem pub_len {N E : List Nat} (hp : PubP N E) (bN : Byt N) : N.length = lenP (bitsN (nV N)) := by
  have h1 := hp.1
  have hb := hp.2.2.1
  have hN : bareN N.reverse = N.reverse := by
    cases N with
    | nil => rfl
    | cons x r =>
      have hx : x ≠ 0 := by
        unfold numOk at h1
        simp at h1
        omega
      rw [List.reverse_cons, bareN_snoc _ _ hx]
  have e := bareN_eq (b := 256) (by decide) (l := N.reverse) (fun x hx => bN x (List.mem_reverse.1 hx))
  rw [hN] at e
  have hl : N.length = (natB 256 (nV N)).length := by
    have := congrArg List.length e
    rwa [List.length_reverse] at this
  have p1 : ∀ k, nV N < 256 ^ k ↔ bitsN (nV N) ≤ 8 * k := fun k => by
    rw [bitsN_le, Nat.pow_mul]
  have a1 : ∀ k, N.length ≤ k ↔ bitsN (nV N) ≤ 8 * k := fun k => by
    rw [hl, natB_length (by decide), p1]
  have a2 := (a1 N.length).1 (Nat.le_refl _)
  have a3 := (a1 (lenP (bitsN (nV N)))).2 (by unfold lenP; omega)
  unfold lenP at a3 ⊢
  omega
theorem sgn_ok {N E : List Nat} (hp : PubP N E) (bN : Byt N) {way h : Int} {d s : List Nat} : (sgnV N way h d s).2 = 0 ↔ IsHash h.toNat ∧ d.length = mSize h.toNat ∧ ((way = 1 ∧ mSize h.toNat + 30 ≤ N.length) ∨ (way = 2 ∧ s.length = mSize h.toNat ∧ 2 * mSize h.toNat + 2 ≤ lenP (bitsN (nV N) - 1))) := by
  have hl := pub_len hp bN
  obtain ⟨hn, hb1, hb2⟩ := pub_bits hp
  unfold sgnV
  rw [hn]
  by_cases w1 : way = 1
  · rw [if_pos w1, encR_ok]
    constructor
    · rintro ⟨a, b, c, e⟩
      exact ⟨a, b, .inl ⟨w1, by omega⟩⟩
    · rintro ⟨a, b, c | c⟩
      · exact ⟨a, b, by omega, by rw [hl]; unfold lenP; omega⟩
      · omega
  rw [if_neg w1]
  by_cases w2 : way = 2
  · rw [if_pos w2]
    by_cases hs : s.length = hSz h
    · rw [if_pos hs, pssV_ok]
      unfold RoomP
      have hz : ∀ (a : IsHash h.toNat), hSz h = mSize h.toNat := fun a => hSz_yes a
      rw [show ((bitsN (nV N) : Int) - 1).toNat = bitsN (nV N) - 1 by omega]
      constructor
      · rintro ⟨⟨a, b, c, e, f⟩, g⟩
        exact ⟨a, g, .inr ⟨w2, by rw [hs, hz a], by rw [hs, hz a] at f; omega⟩⟩
      · rintro ⟨a, b, c | ⟨c, e, f⟩⟩
        · omega
        · exact ⟨⟨a, by omega, by omega, by omega, by omega⟩, b⟩
    · rw [if_neg hs]
      constructor
      · intro e; cases e
      · rintro ⟨a, b, c | ⟨c, e, f⟩⟩
        · omega
        · exact absurd (by rw [e, hSz_yes a]) hs
  · rw [if_neg w2]
    constructor
    · intro e; cases e
    · rintro ⟨a, b, c | c⟩ <;> omega
theorem roomK_iff {N E : List Nat} (bN : Byt N) {way h : Int} : RoomK N E way h ↔ PubP N E ∧ IsHash h.toNat ∧ ((way = 1 ∧ mSize h.toNat + 30 ≤ N.length) ∨ (way = 2 ∧ 2 * mSize h.toNat + 2 ≤ lenP (bitsN (nV N) - 1))) := by
  unfold RoomK
  constructor
  · rintro ⟨hp, h1⟩
    obtain ⟨a, b, c⟩ := (sgn_ok hp bN).1 h1
    exact ⟨hp, a, by rcases c with c | c; exact .inl c; exact .inr ⟨c.1, c.2.2⟩⟩
  · rintro ⟨hp, a, c⟩
    refine ⟨hp, (sgn_ok hp bN).2 ⟨a, by rw [List.length_replicate, hSz_yes a], ?_⟩⟩
    rcases c with c | c
    · exact .inl c
    · exact .inr ⟨c.1, by rw [List.length_replicate, hSz_yes a], c.2⟩
theorem sgn_room {N E : List Nat} (hp : PubP N E) (bN : Byt N) {way h : Int} {d s : List Nat} : (sgnV N way h d s).2 = 0 ↔ RoomK N E way h ∧ d.length = hSz h ∧ (way = 2 → s.length = hSz h) := by
  rw [sgn_ok hp bN, roomK_iff bN]
  constructor
  · rintro ⟨a, b, c⟩
    refine ⟨⟨hp, a, ?_⟩, by rw [b, hSz_yes a], fun e => ?_⟩
    · rcases c with c | c
      · exact .inl c
      · exact .inr ⟨c.1, c.2.2⟩
    · rcases c with c | c
      · omega
      · rw [c.2.1, hSz_yes a]
  · rintro ⟨⟨-, a, c⟩, b, f⟩
    refine ⟨a, by rw [b, hSz_yes a], ?_⟩
    rcases c with c | c
    · exact .inl c
    · exact .inr ⟨c.1, by rw [f c.1, hSz_yes a], c.2⟩
/-- What is signed is below the modulus' length, of bytes. -/
theorem sgn_byt {N E : List Nat} (hp : PubP N E) (bN : Byt N) {way h : Int} {d s : List Nat} (bd : Byt d) (bs : Byt s) : Byt (sgnV N way h d s).1 ∧ (sgnV N way h d s).1.length ≤ 700 := by
  by_cases h0 : (sgnV N way h d s).2 = 0
  · obtain ⟨a, b, c⟩ := (sgn_ok hp bN).1 h0
    have hl := pub_len hp bN
    obtain ⟨hn, hb1, hb2⟩ := pub_bits hp
    have hg := isHash_nat a
    rcases c with ⟨w1, c⟩ | ⟨w2, c, e⟩
    · have e1 : sgnV N way h d s = encR h d (N.length : Int) := by unfold sgnV; rw [if_pos w1]
      rw [e1] at h0 ⊢
      rw [encR_yes h0, Int.toNat_natCast]
      constructor
      · intro x hx
        unfold encL mEncP frameL at hx
        simp only [List.mem_append, List.mem_cons, List.not_mem_nil, or_false, List.mem_replicate] at hx
        rcases hx with ((hx | hx) | hx) | hx | hx
        · rcases hx with rfl | rfl <;> decide
        · rw [hx.2]; decide
        · subst hx; decide
        · exact frameH_lt a x hx
        · exact bd x hx
      · unfold encL mEncP frameL
        simp only [List.length_append, List.length_cons, List.length_nil, List.length_replicate, frameH_len]
        rw [hl] at c ⊢
        unfold lenP at c ⊢
        omega
    · have w1 : way ≠ 1 := by omega
      have e1 : sgnV N way h d s = pssV h d s ((bitsN (numV N) : Int) - 1) := by unfold sgnV; rw [if_neg w1, if_pos w2, if_pos (by rw [c, hSz_yes a])]
      rw [e1] at h0 ⊢
      have hr := pssV_ok.1 h0
      unfold pssV
      rw [if_pos hr]
      have hnn : ((bitsN (numV N) : Int) - 1) = (((bitsN (numV N) : Int) - 1).toNat : Int) := by rw [hn]; omega
      have hrm := hr.1
      rw [hg, hnn] at hrm
      have := ems_fine a d s rfl bs hrm
      exact ⟨this.2.2.2.2, by rw [this.2.2.2.1]; unfold lenP; rw [hn]; omega⟩
  · have hz : (sgnV N way h d s).1 = [] := by
      unfold sgnV at h0 ⊢
      split
      · next w1 => rw [if_pos w1] at h0; exact encR_no h0
      · next w1 =>
        rw [if_neg w1] at h0
        split
        · next w2 =>
          rw [if_pos w2] at h0
          split
          · next e =>
            rw [if_pos e] at h0
            unfold pssV at h0 ⊢
            split
            · next k => rw [if_pos k] at h0; exact absurd rfl h0
            · rfl
          · rfl
        · rfl
    rw [hz]
    exact ⟨fun x hx => (by cases hx), Nat.zero_le _⟩
end Go.Proofs.YtpefjkndfifceaaDoor

namespace Go.Proofs.YtpefjkndfifceaaDoor
open Go.RowKit
set_option maxRecDepth 100000

theorem krbits (k : Value) (N E D : List Nat) (t : Nat) (w : World) (hkey : KeyAt w k N E D) (ht : bitsN (nV N) = t + 1) :
    Calls Tryd.prog 21 #[k] w fun e w' => e = .returned (.int .i64 (t : Int)) ∧ Below w.heap.size w w' := by
  have HSN := Lib.hid (key_small hkey.small.1.1 hkey.small.1.2)
  have ht9 : t ≤ 8192 := by
    have h1 := HSN.out
    rw [topN_two] at h1
    have := (bitsN_le (nV N) 8192).2 h1
    omega
  have HT := Lib.hid (show t + 1 = bitsN (val32 (nat32 (nV N))) by rw [val_nat]; exact ht.symm)
  have e1 : ((t + 1 : Nat) : Int) - 1 = (t : Int) := by omega
  have e1' : (t : Int) + 1 - 1 = (t : Int) := by omega
  clear ht
  obtain ⟨na, nn, nc, ea, en, ec, da, dn, dc, rfl, ⟨hN, bN, ln⟩, ⟨hE, bE, le⟩, hD, bD, ld⟩ := hkey
  have hkey : KeyAt w (.agg #[.slice na nn nc, .slice ea en ec, .slice da dn dc]) N E D := ⟨na, nn, nc, ea, en, ec, da, dn, dc, rfl, ⟨hN, bN, ln⟩, ⟨hE, bE, le⟩, hD, bD, ld⟩
  have HNL := Lib.hid hN.length
  have HSM := Lib.hid hkey.small
  have HRN := Lib.hid hN
  have HBN := Lib.hid bN
  have hba := (Below.refl w.heap.size w).alloc (Nat.le_refl _) (.cells #[.slice na nn nc, .slice ea en ec, .slice da dn dc] 24)
  have hq0 : (w.alloc (.cells #[.slice na nn nc, .slice ea en ec, .slice da dn dc] 24)).heap[w.heap.size]? = some (.cells #[.slice na nn nc, .slice ea en ec, .slice da dn dc] 24) := World.alloc_heap_new w _
  have HQ0 := Lib.hid hq0
  have HB := Lib.hid hba
  have HKey0 := Lib.hid hkey
  clear hN bN hE bE hD bD hba hq0 hkey
  go_enter Tryd.func21, Tryd.ntmps21
  go_wp2_with fail
  have HZ0 := Lib.hid (World.size_alloc w (.cells #[.slice na nn nc, .slice ea en ec, .slice da dn dc] 24))
  generalize w.alloc (.cells #[.slice na nn nc, .slice ea en ec, .slice da dn dc] 24) = w0 at *
  obtain ⟨P, hP⟩ : ∃ P, w.heap.size = P := ⟨_, rfl⟩
  rw [hP] at HQ0 HZ0 ⊢
  have HPW := Lib.hid hP
  have HQ : Hid (∀ X, Below w0.heap.size w0 X → X.heap[P]? = some (.cells #[.slice na nn nc, .slice ea en ec, .slice da dn dc] 24)) := Lib.hid fun X hX => (hX.block P (Array.getElem?_eq_some_iff.1 HQ0.out).1).trans HQ0.out
  have HKey : Hid (∀ X, Below w0.heap.size w0 X → KeyAt X (.agg #[.slice na nn nc, .slice ea en ec, .slice da dn dc]) N E D) := Lib.hid fun X hX => (HKey0.out.below HB.out).below hX
  clear hP HQ0
  have HC := Lib.hid (Below.refl w0.heap.size w0)
  obtain ⟨k0, k1, k2⟩ := key_cells (HQ.out _ HC.out)
  go_wp2_with fail
  refine (number_r na nn nc N w0 (HRN.out.below HB.out) HBN.out ln).mono ?_
  rintro e w1 ⟨⟨v, rfl, hv⟩, hb⟩
  obtain ⟨a1, n1, c1, rfl, hn1, ho⟩ := num_slice hv HSN.out
  have HN1 := Lib.hid ho.reads
  replace HC := Lib.hid (HC.out.trans (hb.mono HC.out.size))
  clear k0 k1 k2 hv ho hb
  go_wp2_with fail
  refine (rf.bits_any a1 n1 c1 _ _ HN1.out (lim_nat _) (by omega) (t + 1) HT.out).mono ?_
  rintro e w2 ⟨rfl, hb⟩
  replace HC := Lib.hid (HC.out.trans (hb.mono HC.out.size))
  clear hb
  go_wp2
  go_ret
  exact ⟨by simp, HPW.out ▸ (HB.out.trans (HC.out.mono HB.out.size))⟩

open Classical in
set_option maxHeartbeats 8000000 in
theorem krroom_any (k : Value) (N E D : List Nat) (way h : Int) (w : World) (hkey : KeyAt w k N E D) :
    Calls Tryd.prog 10 #[k, .int .i64 way, .int .i64 h] w fun e w' => e = .returned (.bool (decide (RoomK N E way h))) ∧ Below w.heap.size w w' := by
  obtain ⟨r, hr⟩ : ∃ r, decide (RoomK N E way h) = r := ⟨_, rfl⟩
  have HNO := Lib.hid (show ¬ RoomK N E way h → r = false from fun k => by rw [← hr]; exact decide_eq_false k)
  have HYES := Lib.hid (show RoomK N E way h → r = true from fun k => by rw [← hr]; exact decide_eq_true k)
  rw [hr]
  clear hr
  have hz := hSz_le h
  obtain ⟨z, hze⟩ : ∃ z, hSz h = z := ⟨_, rfl⟩
  rw [hze] at hz
  have HZ := Lib.hid hze
  clear hze
  obtain ⟨na, nn, nc, ea, en, ec, da, dn, dc, rfl, ⟨hN, bN, ln⟩, ⟨hE, bE, le⟩, hD, bD, ld⟩ := hkey
  have hkey : KeyAt w (.agg #[.slice na nn nc, .slice ea en ec, .slice da dn dc]) N E D := ⟨na, nn, nc, ea, en, ec, da, dn, dc, rfl, ⟨hN, bN, ln⟩, ⟨hE, bE, le⟩, hD, bD, ld⟩
  have HNL := Lib.hid hN.length
  have HSM := Lib.hid hkey.small
  have hba := (Below.refl w.heap.size w).alloc (Nat.le_refl _) (.cells #[.slice na nn nc, .slice ea en ec, .slice da dn dc] 24)
  have hq0 : (w.alloc (.cells #[.slice na nn nc, .slice ea en ec, .slice da dn dc] 24)).heap[w.heap.size]? = some (.cells #[.slice na nn nc, .slice ea en ec, .slice da dn dc] 24) := World.alloc_heap_new w _
  have HQ0 := Lib.hid hq0
  have HB := Lib.hid hba
  have HKey0 := Lib.hid hkey
  clear hN bN hE bE hD bD hba hq0 hkey
  go_enter Tryd.func10, Tryd.ntmps10
  go_wp2_with fail
  have HZ0 := Lib.hid (World.size_alloc w (.cells #[.slice na nn nc, .slice ea en ec, .slice da dn dc] 24))
  generalize w.alloc (.cells #[.slice na nn nc, .slice ea en ec, .slice da dn dc] 24) = w0 at *
  obtain ⟨P, hP⟩ : ∃ P, w.heap.size = P := ⟨_, rfl⟩
  rw [hP] at HQ0 HZ0 ⊢
  have HPW := Lib.hid hP
  have HQ : Hid (∀ X, Below w0.heap.size w0 X → X.heap[P]? = some (.cells #[.slice na nn nc, .slice ea en ec, .slice da dn dc] 24)) := Lib.hid fun X hX => (hX.block P (Array.getElem?_eq_some_iff.1 HQ0.out).1).trans HQ0.out
  have HKey : Hid (∀ X, Below w0.heap.size w0 X → KeyAt X (.agg #[.slice na nn nc, .slice ea en ec, .slice da dn dc]) N E D) := Lib.hid fun X hX => (HKey0.out.below HB.out).below hX
  clear hP HQ0
  have HC := Lib.hid (Below.refl w0.heap.size w0)
  obtain ⟨k0, k1, k2⟩ := key_cells (HQ.out _ HC.out)
  go_wp2_with fail
  refine (krpublic _ N E D _ (HKey.out _ HC.out)).mono ?_
  rintro e w1 ⟨rfl, hb⟩
  replace HC := Lib.hid (HC.out.trans (hb.mono HC.out.size))
  clear hb k0 k1 k2
  obtain ⟨pe, hpe⟩ : ∃ pe, pubE N E = pe := ⟨_, rfl⟩
  have HPE := Lib.hid hpe
  rw [hpe]
  clear hpe
  go_wp2_with fail
  refine (rsize_any h _).mono ?_
  rintro e w2 ⟨rfl, rfl⟩
  rw [rSize_hSz, HZ.out]
  by_cases hp : PubP N E
  rotate_left
  · obtain rfl : pe = 100 := by rw [← HPE.out]; unfold pubE; rw [if_neg hp]
    have HF := Lib.hid (HNO.out fun k => hp k.1)
    clear hp
    go_wp2
    go_ret
    exact ⟨by rw [HF.out]; rfl, HPW.out ▸ (HB.out.trans (HC.out.mono HB.out.size))⟩
  obtain rfl : pe = 0 := by rw [← HPE.out]; unfold pubE; rw [if_pos hp]
  have HP := Lib.hid hp
  have HIF := Lib.hid (roomK_iff (N := N) (E := E) (way := way) (h := h) HSM.out.1.1)
  clear hp
  by_cases hz0 : z = 0
  · subst hz0
    have HF := Lib.hid (HNO.out fun k => by
      obtain ⟨-, a, -⟩ := HIF.out.1 k
      have h1 := hSz_yes a
      have h2 := mSize_le a
      have h3 := HZ.out
      omega)
    go_wp2
    go_ret
    exact ⟨by rw [HF.out]; rfl, HPW.out ▸ (HB.out.trans (HC.out.mono HB.out.size))⟩
  have t1 : ((z : Int) == 0) = false := by simp; omega
  have t2 : (z == 0) = false := by simpa using hz0
  have HH := Lib.hid (show IsHash h.toNat ∧ mSize h.toNat = z from by
    by_cases a : IsHash h.toNat
    · exact ⟨a, by rw [← hSz_yes a]; exact HZ.out⟩
    · exact absurd (by rw [← HZ.out]; exact hSz_no a) hz0)
  clear hz0
  by_cases w1 : way = 1
  · subst w1
    obtain ⟨k0, k1, k2⟩ := key_cells (HQ.out _ HC.out)
    have HR := Lib.hid (show r = decide (z + 30 ≤ nn) from by
      by_cases k : z + 30 ≤ nn
      · rw [decide_eq_true k]
        exact HYES.out (HIF.out.2 ⟨HP.out, HH.out.1, .inl ⟨rfl, by rw [HH.out.2, HNL.out]; exact k⟩⟩)
      · rw [decide_eq_false k]
        refine HNO.out fun e => k ?_
        obtain ⟨-, -, c | c⟩ := HIF.out.1 e
        · have := c.2; rw [HH.out.2, HNL.out] at this; exact this
        · omega)
    by_cases k : z + 30 ≤ nn
    · have u1 : decide ((z : Int) + 19 + 11 ≤ (nn : Int)) = true := decide_eq_true (by omega)
      have u2 : decide (z + 19 + 11 ≤ nn) = true := decide_eq_true (by omega)
      have HF := Lib.hid (show r = true by rw [HR.out]; exact decide_eq_true k)
      clear k
      go_wp2
      go_ret
      exact ⟨by rw [HF.out]; rfl, HPW.out ▸ (HB.out.trans (HC.out.mono HB.out.size))⟩
    · have u1 : decide ((z : Int) + 19 + 11 ≤ (nn : Int)) = false := decide_eq_false (by omega)
      have u2 : decide (z + 19 + 11 ≤ nn) = false := decide_eq_false (by omega)
      have HF := Lib.hid (show r = false by rw [HR.out]; exact decide_eq_false k)
      clear k
      go_wp2
      go_ret
      exact ⟨by rw [HF.out]; rfl, HPW.out ▸ (HB.out.trans (HC.out.mono HB.out.size))⟩
  have t3 : (way == 1) = false := by simpa using w1
  by_cases w2x : way = 2
  rotate_left
  · have t4 : (way == 2) = false := by simpa using w2x
    have HF := Lib.hid (HNO.out fun e => by
      obtain ⟨-, -, c | c⟩ := HIF.out.1 e
      · exact w1 c.1
      · exact w2x c.1)
    clear w1 w2x
    go_wp2
    go_ret
    exact ⟨by rw [HF.out]; rfl, HPW.out ▸ (HB.out.trans (HC.out.mono HB.out.size))⟩
  subst w2x
  clear w1 t3
  obtain ⟨hnN, hb1, hb2⟩ := pub_bits HP.out
  obtain ⟨t, ht⟩ : ∃ t, bitsN (nV N) = t + 1 := ⟨bitsN (nV N) - 1, by omega⟩
  obtain ⟨m, hm⟩ : ∃ m, lenP t = m := ⟨_, rfl⟩
  have HT := Lib.hid ht
  have ht9 : t ≤ 4096 := by omega
  have hm9 : m ≤ 600 := by rw [← hm]; unfold lenP; omega
  have e2 : ((t : Int) + 7) / 8 = (m : Int) := by rw [← hm]; unfold lenP; omega
  have e3 : Int.tdiv ((t : Int) + 7) 8 = (m : Int) := by rw [Int.tdiv_eq_ediv_of_nonneg (by omega), e2]
  have e4 : (t + 7) / 8 = m := by rw [← hm]; rfl
  have HR := Lib.hid (show r = decide (2 * z + 2 ≤ m) from by
    have he : bitsN (nV N) - 1 = t := by omega
    by_cases k : 2 * z + 2 ≤ m
    · rw [decide_eq_true k]
      exact HYES.out (HIF.out.2 ⟨HP.out, HH.out.1, .inr ⟨rfl, by rw [HH.out.2, he, hm]; exact k⟩⟩)
    · rw [decide_eq_false k]
      refine HNO.out fun e => k ?_
      obtain ⟨-, -, c | c⟩ := HIF.out.1 e
      · omega
      · have := c.2; rw [HH.out.2, he, hm] at this; exact this)
  clear hnN hb1 hb2 ht hm
  obtain ⟨k0, k1, k2⟩ := key_cells (HQ.out _ HC.out)
  go_wp2_with fail
  refine (krbits _ N E D t _ (HKey.out _ HC.out) HT.out).mono ?_
  rintro e w3 ⟨rfl, hb⟩
  replace HC := Lib.hid (HC.out.trans (hb.mono HC.out.size))
  clear hb k0 k1 k2
  by_cases k : 2 * z + 2 ≤ m
  · have u1 : decide (2 * (z : Int) + 2 ≤ (m : Int)) = true := decide_eq_true (by omega)
    have u2 : decide (2 * z + 2 ≤ m) = true := decide_eq_true (by omega)
    have HF := Lib.hid (show r = true by rw [HR.out]; exact decide_eq_true k)
    clear k
    go_wp2
    go_ret
    exact ⟨by rw [HF.out]; first | rfl | simp [u1, u2, e2], HPW.out ▸ (HB.out.trans (HC.out.mono HB.out.size))⟩
  · have u1 : decide (2 * (z : Int) + 2 ≤ (m : Int)) = false := decide_eq_false (by omega)
    have u2 : decide (2 * z + 2 ≤ m) = false := decide_eq_false (by omega)
    have HF := Lib.hid (show r = false by rw [HR.out]; exact decide_eq_false k)
    clear k
    go_wp2
    go_ret
    exact ⟨by rw [HF.out]; first | rfl | simp [u1, u2, e2], HPW.out ▸ (HB.out.trans (HC.out.mono HB.out.size))⟩
end Go.Proofs.YtpefjkndfifceaaDoor

namespace Go.Proofs.YtpefjkndfifceaaDoor
open Go.RowKit
set_option maxRecDepth 100000

set_option maxHeartbeats 8000000 in
theorem signed_any (k : Value) (N E D : List Nat) (way h : Int) (ga : Option Addr) (gn gc : Nat) (d : List Nat) (sa : Option Addr) (sn sc : Nat) (s : List Nat) (w : World) (hkey : KeyAt w k N E D) (hk : Kinds w) (hd : Reads .u8 w ga gn gc d) (hs : Reads .u8 w sa sn sc s) (bd : Byt d) (bs : Byt s) :
    Calls Tryd.prog 19 #[k, .int .i64 way, .int .i64 h, .slice ga gn gc, .slice sa sn sc] w fun e w' => (∃ a n c, e = .returned (.tuple #[.slice a n c, .int .i64 (sgnV N way h d s).2]) ∧ OwnQ .u8 5 w.heap.size w' (.slice a n c) (sgnV N way h d s).1) ∧ Below w.heap.size w w' := by
  obtain ⟨R, hR⟩ : ∃ R, sgnV N way h d s = R := ⟨_, rfl⟩
  rw [hR]
  have HBd := Lib.hid bd
  have HBs := Lib.hid bs
  have HSL := Lib.hid hs.length
  have HDL := Lib.hid hd.length
  clear bd bs
  by_cases w1 : way = 1
  · subst w1
    have HR := Lib.hid (show R = encR h d (N.length : Int) by rw [← hR]; unfold sgnV; rw [if_pos rfl])
    clear hR
    obtain ⟨na, nn, nc, ea, en, ec, da, dn, dc, rfl, ⟨hN, bN, ln⟩, ⟨hE, bE, le⟩, hD, bD, ld⟩ := hkey
    have hkey : KeyAt w (.agg #[.slice na nn nc, .slice ea en ec, .slice da dn dc]) N E D := ⟨na, nn, nc, ea, en, ec, da, dn, dc, rfl, ⟨hN, bN, ln⟩, ⟨hE, bE, le⟩, hD, bD, ld⟩
    have HNL := Lib.hid hN.length
    have HSM := Lib.hid hkey.small
    have hba := (Below.refl w.heap.size w).alloc (Nat.le_refl _) (.cells #[.slice na nn nc, .slice ea en ec, .slice da dn dc] 24)
    have hq0 : (w.alloc (.cells #[.slice na nn nc, .slice ea en ec, .slice da dn dc] 24)).heap[w.heap.size]? = some (.cells #[.slice na nn nc, .slice ea en ec, .slice da dn dc] 24) := World.alloc_heap_new w _
    have HQ0 := Lib.hid hq0
    have HB := Lib.hid hba
    have HKey0 := Lib.hid hkey
    have HKs0 := Lib.hid hk
    have HD0 := Lib.hid hd
    have HS0 := Lib.hid hs
    clear hN bN hE bE hD bD hba hq0 hkey hk hd hs
    go_enter Tryd.func19, Tryd.ntmps19
    go_wp2_with fail
    have HZ0 := Lib.hid (World.size_alloc w (.cells #[.slice na nn nc, .slice ea en ec, .slice da dn dc] 24))
    generalize w.alloc (.cells #[.slice na nn nc, .slice ea en ec, .slice da dn dc] 24) = w0 at *
    obtain ⟨P, hP⟩ : ∃ P, w.heap.size = P := ⟨_, rfl⟩
    rw [hP] at HQ0 HZ0 ⊢
    have HPW := Lib.hid hP
    have HQ : Hid (∀ X, Below w0.heap.size w0 X → X.heap[P]? = some (.cells #[.slice na nn nc, .slice ea en ec, .slice da dn dc] 24)) := Lib.hid fun X hX => (hX.block P (Array.getElem?_eq_some_iff.1 HQ0.out).1).trans HQ0.out
    have HKey : Hid (∀ X, Below w0.heap.size w0 X → KeyAt X (.agg #[.slice na nn nc, .slice ea en ec, .slice da dn dc]) N E D) := Lib.hid fun X hX => (HKey0.out.below HB.out).below hX
    have HKs : Hid (∀ X, Below w0.heap.size w0 X → Kinds X) := Lib.hid fun X hX => (HKs0.out.below HB.out).below hX
    have HD := Lib.hid (fun (X : World) (hX : Below w0.heap.size w0 X) => (HD0.out.below HB.out).below hX)
    have HS := Lib.hid (fun (X : World) (hX : Below w0.heap.size w0 X) => (HS0.out.below HB.out).below hX)
    clear hP HQ0
    have HC := Lib.hid (Below.refl w0.heap.size w0)
    obtain ⟨k0, k1, k2⟩ := key_cells (HQ.out _ HC.out)
    go_wp2_with fail
    refine (encode_any h ga gn gc d (nn : Int) _ (HKs.out _ HC.out) (HD.out _ HC.out)).mono ?_
    rintro e w1 ⟨⟨v, rfl, hv⟩, hb⟩
    rw [show encR h d (nn : Int) = R by rw [HR.out, HNL.out]] at hv ⊢
    obtain ⟨a1, n1, c1, rfl, -, ho⟩ := own_slM hv
    have HO := Lib.hid ho
    replace HC := Lib.hid (HC.out.trans (hb.mono HC.out.size))
    clear hb hv ho k0 k1 k2
    go_wp2
    go_ret2
    exact ⟨⟨a1, n1, c1, rfl, HO.out.mono (by have h1 := HB.out.size; have h3 := HPW.out; omega)⟩, HPW.out ▸ (HB.out.trans (HC.out.mono HB.out.size))⟩

  have t1 : (way == 1) = false := by simpa using w1
  by_cases w2 : way = 2
  rotate_left
  · have t2 : (way == 2) = false := by simpa using w2
    have HR := Lib.hid (show R = ([], 101) by rw [← hR]; unfold sgnV; rw [if_neg w1, if_neg w2])
    clear hR w1 w2
    obtain ⟨na, nn, nc, ea, en, ec, da, dn, dc, rfl, ⟨hN, bN, ln⟩, ⟨hE, bE, le⟩, hD, bD, ld⟩ := hkey
    have hkey : KeyAt w (.agg #[.slice na nn nc, .slice ea en ec, .slice da dn dc]) N E D := ⟨na, nn, nc, ea, en, ec, da, dn, dc, rfl, ⟨hN, bN, ln⟩, ⟨hE, bE, le⟩, hD, bD, ld⟩
    have HNL := Lib.hid hN.length
    have HSM := Lib.hid hkey.small
    have hba := (Below.refl w.heap.size w).alloc (Nat.le_refl _) (.cells #[.slice na nn nc, .slice ea en ec, .slice da dn dc] 24)
    have hq0 : (w.alloc (.cells #[.slice na nn nc, .slice ea en ec, .slice da dn dc] 24)).heap[w.heap.size]? = some (.cells #[.slice na nn nc, .slice ea en ec, .slice da dn dc] 24) := World.alloc_heap_new w _
    have HQ0 := Lib.hid hq0
    have HB := Lib.hid hba
    have HKey0 := Lib.hid hkey
    have HKs0 := Lib.hid hk
    have HD0 := Lib.hid hd
    have HS0 := Lib.hid hs
    clear hN bN hE bE hD bD hba hq0 hkey hk hd hs
    go_enter Tryd.func19, Tryd.ntmps19
    go_wp2_with fail
    have HZ0 := Lib.hid (World.size_alloc w (.cells #[.slice na nn nc, .slice ea en ec, .slice da dn dc] 24))
    generalize w.alloc (.cells #[.slice na nn nc, .slice ea en ec, .slice da dn dc] 24) = w0 at *
    obtain ⟨P, hP⟩ : ∃ P, w.heap.size = P := ⟨_, rfl⟩
    rw [hP] at HQ0 HZ0 ⊢
    have HPW := Lib.hid hP
    have HQ : Hid (∀ X, Below w0.heap.size w0 X → X.heap[P]? = some (.cells #[.slice na nn nc, .slice ea en ec, .slice da dn dc] 24)) := Lib.hid fun X hX => (hX.block P (Array.getElem?_eq_some_iff.1 HQ0.out).1).trans HQ0.out
    have HKey : Hid (∀ X, Below w0.heap.size w0 X → KeyAt X (.agg #[.slice na nn nc, .slice ea en ec, .slice da dn dc]) N E D) := Lib.hid fun X hX => (HKey0.out.below HB.out).below hX
    have HKs : Hid (∀ X, Below w0.heap.size w0 X → Kinds X) := Lib.hid fun X hX => (HKs0.out.below HB.out).below hX
    have HD := Lib.hid (fun (X : World) (hX : Below w0.heap.size w0 X) => (HD0.out.below HB.out).below hX)
    have HS := Lib.hid (fun (X : World) (hX : Below w0.heap.size w0 X) => (HS0.out.below HB.out).below hX)
    clear hP HQ0
    have HC := Lib.hid (Below.refl w0.heap.size w0)
    go_wp2
    go_ret2
    exact ⟨⟨none, 0, 0, by rw [HR.out]; rfl, by rw [HR.out]; exact OwnQ.nil _ _ _ _⟩, HPW.out ▸ (HB.out.trans (HC.out.mono HB.out.size))⟩

  subst w2
  have HR := Lib.hid (show R = (if s.length = hSz h then pssV h d s ((bitsN (numV N) : Int) - 1) else ([], 101)) by rw [← hR]; unfold sgnV; rw [if_neg (by decide), if_pos rfl])
  clear hR w1 t1
  have hz := hSz_le h
  obtain ⟨z, hz2⟩ : ∃ z, hSz h = z := ⟨_, rfl⟩
  rw [hz2] at hz
  have HZ := Lib.hid hz2
  obtain ⟨b, hb2⟩ : ∃ b, bitsN (numV N) = b := ⟨_, rfl⟩
  have HBB := Lib.hid hb2
  have hb9 : b ≤ 8192 := by
    rw [← hb2]
    have h1 := numV_small hkey.small.1.1 hkey.small.1.2
    rw [topN_two] at h1
    exact (bitsN_le (numV N) 8192).2 h1
  clear hz2 hb2
  obtain ⟨na, nn, nc, ea, en, ec, da, dn, dc, rfl, ⟨hN, bN, ln⟩, ⟨hE, bE, le⟩, hD, bD, ld⟩ := hkey
  have hkey : KeyAt w (.agg #[.slice na nn nc, .slice ea en ec, .slice da dn dc]) N E D := ⟨na, nn, nc, ea, en, ec, da, dn, dc, rfl, ⟨hN, bN, ln⟩, ⟨hE, bE, le⟩, hD, bD, ld⟩
  have HNL := Lib.hid hN.length
  have HSM := Lib.hid hkey.small
  have hba := (Below.refl w.heap.size w).alloc (Nat.le_refl _) (.cells #[.slice na nn nc, .slice ea en ec, .slice da dn dc] 24)
  have hq0 : (w.alloc (.cells #[.slice na nn nc, .slice ea en ec, .slice da dn dc] 24)).heap[w.heap.size]? = some (.cells #[.slice na nn nc, .slice ea en ec, .slice da dn dc] 24) := World.alloc_heap_new w _
  have HQ0 := Lib.hid hq0
  have HB := Lib.hid hba
  have HKey0 := Lib.hid hkey
  have HKs0 := Lib.hid hk
  have HD0 := Lib.hid hd
  have HS0 := Lib.hid hs
  clear hN bN hE bE hD bD hba hq0 hkey hk hd hs
  go_enter Tryd.func19, Tryd.ntmps19
  go_wp2_with fail
  have HZ0 := Lib.hid (World.size_alloc w (.cells #[.slice na nn nc, .slice ea en ec, .slice da dn dc] 24))
  generalize w.alloc (.cells #[.slice na nn nc, .slice ea en ec, .slice da dn dc] 24) = w0 at *
  obtain ⟨P, hP⟩ : ∃ P, w.heap.size = P := ⟨_, rfl⟩
  rw [hP] at HQ0 HZ0 ⊢
  have HPW := Lib.hid hP
  have HQ : Hid (∀ X, Below w0.heap.size w0 X → X.heap[P]? = some (.cells #[.slice na nn nc, .slice ea en ec, .slice da dn dc] 24)) := Lib.hid fun X hX => (hX.block P (Array.getElem?_eq_some_iff.1 HQ0.out).1).trans HQ0.out
  have HKey : Hid (∀ X, Below w0.heap.size w0 X → KeyAt X (.agg #[.slice na nn nc, .slice ea en ec, .slice da dn dc]) N E D) := Lib.hid fun X hX => (HKey0.out.below HB.out).below hX
  have HKs : Hid (∀ X, Below w0.heap.size w0 X → Kinds X) := Lib.hid fun X hX => (HKs0.out.below HB.out).below hX
  have HD := Lib.hid (fun (X : World) (hX : Below w0.heap.size w0 X) => (HD0.out.below HB.out).below hX)
  have HS := Lib.hid (fun (X : World) (hX : Below w0.heap.size w0 X) => (HS0.out.below HB.out).below hX)
  clear hP HQ0
  have HC := Lib.hid (Below.refl w0.heap.size w0)
  go_wp2_with fail
  refine (msize_any h _ (HKs.out _ HC.out)).mono ?_
  rintro e w1 ⟨rfl, hb⟩
  rw [HZ.out]
  replace HC := Lib.hid (HC.out.trans (hb.mono HC.out.size))
  clear hb
  by_cases hsz : sn = z
  rotate_left
  · have t1 : ((sn : Int) == (z : Int)) = false := by simp; omega
    have t2 : (sn == z) = false := by simpa using hsz
    have HF := Lib.hid (show R = ([], 101) by rw [HR.out, if_neg (by rw [HSL.out, HZ.out]; exact hsz)])
    clear hsz
    go_wp2
    go_ret2
    exact ⟨⟨none, 0, 0, by rw [HF.out]; rfl, by rw [HF.out]; exact OwnQ.nil _ _ _ _⟩, HPW.out ▸ (HB.out.trans (HC.out.mono HB.out.size))⟩
  subst hsz
  have HF := Lib.hid (show R = pssV h d s ((b : Int) - 1) by rw [HR.out, if_pos (by rw [HSL.out, HZ.out]), HBB.out])
  have t1 : ((sn : Int) == (sn : Int)) = true := by simp
  have t2 : (sn == sn) = true := by simp
  obtain ⟨k0, k1, k2⟩ := key_cells (HQ.out _ HC.out)
  go_wp2_with fail
  refine (kbits _ N E D _ (HKey.out _ HC.out)).mono ?_
  rintro e w2 ⟨rfl, hb⟩
  rw [HBB.out]
  replace HC := Lib.hid (HC.out.trans (hb.mono HC.out.size))
  clear hb k0 k1 k2
  go_wp2_with fail
  refine (pencode_any h ga gn gc d sa sn sc s ((b : Int) - 1) (by omega) (by omega) (by omega) _ (HKs.out _ HC.out) (HD.out _ HC.out) (HS.out _ HC.out) HBd.out HBs.out).mono ?_
  rintro e w3 ⟨hb, ⟨hok, g, rfl, ho⟩ | ⟨hno, rfl⟩⟩
  · have HO := Lib.hid ho
    have HZ2 := Lib.hid HC.out.size
    have HG := Lib.hid (show R = (emsP h.toNat d s ((b : Int) - 1).toNat, 0) by rw [HF.out]; unfold pssV; rw [if_pos ⟨by rw [HSL.out]; exact hok.1, by rw [HDL.out]; exact hok.2⟩])
    replace HC := Lib.hid (HC.out.trans (hb.mono HC.out.size))
    clear hb ho hok
    generalize lenP ((b : Int) - 1).toNat = ll at *
    go_wp2
    go_ret2
    exact ⟨⟨some ⟨g, 0, none⟩, ll, ll, by rw [HG.out]; rfl, by rw [HG.out]; exact HO.out.mono (by have h1 := HB.out.size; have h2 := HZ2.out; have h3 := HPW.out; omega)⟩, HPW.out ▸ (HB.out.trans (HC.out.mono HB.out.size))⟩
  · have HG := Lib.hid (show R = ([], 90) by rw [HF.out]; unfold pssV; rw [if_neg (fun k => hno ⟨by rw [← HSL.out]; exact k.1, by rw [← HDL.out]; exact k.2⟩)])
    replace HC := Lib.hid (HC.out.trans (hb.mono HC.out.size))
    clear hb hno
    go_wp2
    go_ret2
    exact ⟨⟨none, 0, 0, by rw [HG.out]; rfl, by rw [HG.out]; exact OwnQ.nil _ _ _ _⟩, HPW.out ▸ (HB.out.trans (HC.out.mono HB.out.size))⟩

open Classical in
theorem roomK_dec {N E : List Nat} {way h : Int} {z : Nat} {q : Int} (hz : hSz h = z) (hp : PubP N E) (hq : (sgnV N way h (List.replicate z 0) (List.replicate z 0)).2 = q) : decide (RoomK N E way h) = decide (q = 0) := by
  subst hz
  by_cases k : q = 0
  · rw [decide_eq_true k]
    exact decide_eq_true (show RoomK N E way h from ⟨hp, hq.trans k⟩)
  · rw [decide_eq_false k]
    exact decide_eq_false fun e : RoomK N E way h => k (hq.symm.trans e.2)
open Classical in
set_option maxHeartbeats 8000000 in
theorem kroom_any (k : Value) (N E D : List Nat) (way h : Int) (w : World) (hkey : KeyAt w k N E D) (hk : Kinds w) :
    Calls Tryd.prog 9 #[k, .int .i64 way, .int .i64 h] w fun e w' => e = .returned (.bool (decide (RoomK N E way h))) ∧ Below w.heap.size w w' := by
  obtain ⟨i0, hi0, hz0, hz1, hz2⟩ := info_parts infoMk
  obtain ⟨r, hr⟩ : ∃ r, decide (RoomK N E way h) = r := ⟨_, rfl⟩
  have HRR := Lib.hid hr
  rw [hr]
  clear hr
  have hz := hSz_le h
  obtain ⟨z, hze⟩ : ∃ z, hSz h = z := ⟨_, rfl⟩
  rw [hze] at hz
  have HZ := Lib.hid hze
  clear hze
  obtain ⟨na, nn, nc, ea, en, ec, da, dn, dc, rfl, ⟨hN, bN, ln⟩, ⟨hE, bE, le⟩, hD, bD, ld⟩ := hkey
  have hkey : KeyAt w (.agg #[.slice na nn nc, .slice ea en ec, .slice da dn dc]) N E D := ⟨na, nn, nc, ea, en, ec, da, dn, dc, rfl, ⟨hN, bN, ln⟩, ⟨hE, bE, le⟩, hD, bD, ld⟩
  have HNL := Lib.hid hN.length
  have HSM := Lib.hid hkey.small
  have hba := (Below.refl w.heap.size w).alloc (Nat.le_refl _) (.cells #[.slice na nn nc, .slice ea en ec, .slice da dn dc] 24)
  have hq0 : (w.alloc (.cells #[.slice na nn nc, .slice ea en ec, .slice da dn dc] 24)).heap[w.heap.size]? = some (.cells #[.slice na nn nc, .slice ea en ec, .slice da dn dc] 24) := World.alloc_heap_new w _
  have HQ0 := Lib.hid hq0
  have HB := Lib.hid hba
  have HKey0 := Lib.hid hkey
  have HKs0 := Lib.hid hk
  clear hN bN hE bE hD bD hba hq0 hkey hk
  go_enter Tryd.func9, Tryd.ntmps9
  go_wp2_with fail
  have HZ0 := Lib.hid (World.size_alloc w (.cells #[.slice na nn nc, .slice ea en ec, .slice da dn dc] 24))
  generalize w.alloc (.cells #[.slice na nn nc, .slice ea en ec, .slice da dn dc] 24) = w0 at *
  obtain ⟨P, hP⟩ : ∃ P, w.heap.size = P := ⟨_, rfl⟩
  rw [hP] at HQ0 HZ0 ⊢
  have HPW := Lib.hid hP
  have HQ : Hid (∀ X, Below w0.heap.size w0 X → X.heap[P]? = some (.cells #[.slice na nn nc, .slice ea en ec, .slice da dn dc] 24)) := Lib.hid fun X hX => (hX.block P (Array.getElem?_eq_some_iff.1 HQ0.out).1).trans HQ0.out
  have HKey : Hid (∀ X, Below w0.heap.size w0 X → KeyAt X (.agg #[.slice na nn nc, .slice ea en ec, .slice da dn dc]) N E D) := Lib.hid fun X hX => (HKey0.out.below HB.out).below hX
  have HKs : Hid (∀ X, Below w0.heap.size w0 X → Kinds X) := Lib.hid fun X hX => (HKs0.out.below HB.out).below hX
  clear hP HQ0
  have HC := Lib.hid (Below.refl w0.heap.size w0)
  obtain ⟨k0, k1, k2⟩ := key_cells (HQ.out _ HC.out)
  go_wp2_with fail
  refine (kpublic _ N E D _ (HKey.out _ HC.out)).mono ?_
  rintro e w1 ⟨rfl, hb⟩
  replace HC := Lib.hid (HC.out.trans (hb.mono HC.out.size))
  clear hb k0 k1 k2
  by_cases hp : PubP N E
  rotate_left
  · rw [show pubE N E = 100 by unfold pubE; rw [if_neg hp]]
    have HF := Lib.hid (show r = false by rw [← HRR.out]; exact decide_eq_false fun k => hp k.1)
    clear hp
    go_wp2
    go_ret
    exact ⟨by rw [HF.out]; rfl, HPW.out ▸ (HB.out.trans (HC.out.mono HB.out.size))⟩
  rw [show pubE N E = 0 by unfold pubE; rw [if_pos hp]]
  have HP := Lib.hid hp
  clear hp
  go_wp2_with fail
  refine (msize_any h _ (HKs.out _ HC.out)).mono ?_
  rintro e w2 ⟨rfl, hb⟩
  rw [HZ.out]
  replace HC := Lib.hid (HC.out.trans (hb.mono HC.out.size))
  clear hb
  go_wp2_with (at_make; refine wpList_make_lcM .u8 _ rfl _ _ 22 rfl w2.heap.size 5 i0 Tryd.underlying22 hi0 hz0 hz1 _ _ _ _ z z rfl rfl rfl rfl (Nat.le_refl _) (by rw [hz2]; omega) (by unfold maxLen; omega) (Nat.le_refl _) ?_; intro w3 hown hgrow; have HO := Lib.hid hown; have hb := (Below.refl w2.heap.size w2).grown hgrow (Nat.le_refl _) (fun r e => by cases e); replace HC := Lib.hid (HC.out.trans (hb.mono HC.out.size)); obtain ⟨k0, k1, k2⟩ := key_cells (HQ.out _ HC.out); clear hown hgrow hb)
  generalize w2.heap.size = S2 at *
  refine (signed_any _ N E D way h _ _ _ (List.replicate z 0) _ _ _ (List.replicate z 0) _ (HKey.out _ HC.out) (HKs.out _ HC.out) HO.out.reads HO.out.reads (byt_rep _) (byt_rep _)).mono ?_
  rintro e w4 ⟨⟨a4, n4, c4, rfl, ho⟩, hb⟩
  replace HC := Lib.hid (HC.out.trans (hb.mono HC.out.size))
  clear hb ho k0 k1 k2
  obtain ⟨q, hq⟩ : ∃ q, (sgnV N way h (List.replicate z 0) (List.replicate z 0)).2 = q := ⟨_, rfl⟩
  rw [hq]
  have HQR := Lib.hid (show r = decide (q = 0) by rw [← HRR.out]; exact roomK_dec HZ.out HP.out hq)
  clear hq
  by_cases hq0 : q = 0
  · subst hq0
    have HF := Lib.hid (show r = true by rw [HQR.out]; rfl)
    go_wp2
    go_ret
    exact ⟨by rw [HF.out]; rfl, HPW.out ▸ (HB.out.trans (HC.out.mono HB.out.size))⟩
  · have t1 : (q == 0) = false := by simpa using hq0
    have HF := Lib.hid (show r = false by rw [HQR.out]; exact decide_eq_false hq0)
    clear hq0
    go_wp2
    go_ret
    exact ⟨by rw [HF.out]; rfl, HPW.out ▸ (HB.out.trans (HC.out.mono HB.out.size))⟩
end Go.Proofs.YtpefjkndfifceaaDoor
