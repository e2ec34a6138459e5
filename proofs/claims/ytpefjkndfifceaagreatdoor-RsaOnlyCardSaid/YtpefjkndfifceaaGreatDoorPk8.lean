/- Part of the proofs: what the functions that the law calls do. -/
import Derived.Test.YtpefjkndfifceaaGreatDoorPk6
import Derived.Test.YtpefjkndfifceaaGreatDoorPk7
import Derived.Stop.RegionWithIn
import Derived.BigRegionIn
import Derived.Laws.ResultCell
set_option linter.unusedVariables false
set_option linter.unusedSimpArgs false
namespace Go.Proofs.YtpefjkndfifceaaGreatDoor
open Go.RowKit
set_option maxRecDepth 100000
def testsP (h sn : Nat) (b : List Nat) (n : Nat) : List Bool :=
  let S := mSize h
  let K := lenP n - S - 1
  let M := maskedP h (b.take K) ((b.drop K).take S) n
  let a := K - sn - 1
  [true, (b.drop (K + S))[0]?.getD 0 == 188, (b.take K)[0]?.getD 0 &&& (255 ^^^ lowP n) == 0, true, (Oc.bareL (u8s (M.take a))).length == 0, (((M.drop a).take 1)[0]?.getD 0) == 1]
def PartsAt (bp : Nat) (I s : List Nat) (W : World) : Prop := ∃ ia ic sa sc B, bp < B ∧ W.cell? ⟨bp, 0, none⟩ = some (.slice ia I.length ic) ∧ W.cell? ⟨bp, 1, none⟩ = some (.slice sa s.length sc) ∧ OwnQ .u8 5 B W (.slice ia I.length ic) I ∧ OwnQ .u8 5 B W (.slice sa s.length sc) s
theorem OwnQ.kp {q : IntKind} {E B : Nat} {w X : World} {v : Value} {l : List Nat} {Ex : Nat → Prop} (h : OwnQ q E B w v l) (hk : KpV Ex w X) (hn : ∀ k, B ≤ k → ¬ Ex k) : OwnQ q E B X v l := by
  obtain ⟨h1, h2⟩ := h
  refine ⟨h1, ?_⟩
  rcases h2 with h2 | ⟨g, cap, cur, rfl, hB, hg, rest⟩
  · exact .inl h2
  · exact .inr ⟨g, cap, cur, rfl, hB, by rw [hk.2 g (Array.getElem?_eq_some_iff.1 hg).1 (hn g hB)]; exact hg, rest⟩
theorem OwnQ.blk {q : IntKind} {E B : Nat} {w : World} {g n c : Nat} {l : List Nat} (h : OwnQ q E B w (.slice (some ⟨g, 0, none⟩) n c) l) : B ≤ g := by
  rcases h.2 with ⟨h, -⟩ | ⟨_, _, _, h, hb, -⟩
  · cases h
  · cases h; exact hb
theorem u8_xor_nat (x y : Nat) (hx : x < 256) (hy : y < 256) : bits BinOp.xor IntKind.u8 (x : Int) (y : Int) = ((x ^^^ y : Nat) : Int) := by
  have := Oc.xor8 (UInt8.ofNat x) (UInt8.ofNat y)
  rw [UInt8.toNat_xor, UInt8.toNat_ofNat', UInt8.toNat_ofNat', Nat.mod_eq_of_lt (show x < 2 ^ 8 from hx), Nat.mod_eq_of_lt (show y < 2 ^ 8 from hy)] at this
  exact this
def encBp (x : Bool) : Array Value := #[.bool x]
theorem KpV.below {E : Nat → Prop} {W X : World} (h : Below W.heap.size W X) : KpV E W X := ⟨h.size, fun k hk _ => h.block k hk⟩
end Go.Proofs.YtpefjkndfifceaaGreatDoor
namespace Go.Proofs.YtpefjkndfifceaaGreatDoor
open Go.RowKit
set_option maxRecDepth 100000
end Go.Proofs.YtpefjkndfifceaaGreatDoor
namespace Go.Proofs.YtpefjkndfifceaaGreatDoor
open Go.RowKit
set_option maxRecDepth 100000
def partI (h n : Nat) (b : List Nat) : List Nat := (b.drop (lenP n - mSize h - 1)).take (mSize h)
def partS (h sn n : Nat) (b : List Nat) : List Nat := (maskedP h (b.take (lenP n - mSize h - 1)) (partI h n b) n).drop (lenP n - mSize h - 1 - sn)
def fineP (h sn : Nat) (b : List Nat) (n : Nat) : Bool := (testsP h sn b n).all id
theorem bare_noughts : ∀ (l : List Nat) (_ : Byt l), (Oc.bareL (u8s l)).length = 0 ↔ l = List.replicate l.length 0
  | [], _ => ⟨fun _ => rfl, fun _ => rfl⟩
  | x :: r, hb => by
    have hx : x < 256 := hb x List.mem_cons_self
    have ih := bare_noughts r (fun y hy => hb y (List.mem_cons_of_mem _ hy))
    rw [List.length_cons, List.replicate_succ, List.cons.injEq]
    unfold Oc.bareL u8s at ih ⊢
    rw [List.map_cons, List.dropWhile_cons]
    by_cases h0 : x = 0
    · subst h0
      rw [if_pos (by decide)]
      exact ih.trans ⟨fun h => ⟨rfl, h⟩, fun h => h.2⟩
    · rw [if_neg]
      · exact ⟨fun h => by simp at h, fun h => absurd h.1 h0⟩
      · intro h1
        rw [beq_iff_eq] at h1
        have h2 := congrArg UInt8.toNat h1
        rw [UInt8.toNat_ofNat', Nat.mod_eq_of_lt (show x < 2 ^ 8 from hx)] at h2
        exact h0 h2
theorem bit_255 (m i : Nat) (hi : i < 8) : (255 ^^^ m).testBit i = !(m.testBit i) := by
  rw [Nat.testBit_xor, show (255 : Nat) = 2 ^ 8 - 1 from rfl, Nat.testBit_two_pow_sub_one, decide_eq_true hi, Bool.true_xor]
theorem of_fits (x m : Nat) (hx : x < 256) (h : x &&& m = x) : x &&& (255 ^^^ m) = 0 := by
  refine Nat.eq_of_testBit_eq fun i => ?_
  rw [Nat.testBit_and, Nat.zero_testBit]
  by_cases hi : i < 8
  · have h1 := congrArg (fun y => y.testBit i) h
    simp only [Nat.testBit_and] at h1
    rw [bit_255 m i hi]
    cases hb : x.testBit i with
    | false => rfl
    | true =>
      rw [hb, Bool.true_and] at h1
      rw [h1]; rfl
  · rw [Nat.testBit_lt_two_pow (Nat.lt_of_lt_of_le hx (Nat.pow_le_pow_right (n := 2) (by decide) (show 8 ≤ i by omega)))]
    rfl
theorem cut_three {X I : List Nat} {K S : Nat} (z : Nat) (hX : X.length = K) (hI : I.length = S) : (X ++ I ++ [z]).take K = X ∧ ((X ++ I ++ [z]).drop K).take S = I ∧ (X ++ I ++ [z]).drop (K + S) = [z] := by
  refine ⟨?_, ?_, ?_⟩
  · rw [List.append_assoc, List.take_left' hX]
  · rw [List.append_assoc, List.drop_left' hX, List.take_left' hI]
  · rw [List.drop_left' (by rw [List.length_append]; omega)]
theorem part_cut {h n K S : Nat} {X I : List Nat} (z : Nat) (hX : X.length = K) (hI : I.length = S) (hS : mSize h = S) (hN : lenP n = K + S + 1) : partI h n (X ++ I ++ [z]) = I := by
  unfold partI
  rw [hS, hN, show K + S + 1 - S - 1 = K by omega]
  exact (cut_three z hX hI).2.1
theorem parts_cut {h n K S : Nat} {X I : List Nat} (z sn : Nat) (hX : X.length = K) (hI : I.length = S) (hS : mSize h = S) (hN : lenP n = K + S + 1) : partS h sn n (X ++ I ++ [z]) = (maskedP h X I n).drop (K - sn) := by
  unfold partS
  rw [part_cut z hX hI hS hN, hS, hN, show K + S + 1 - S - 1 = K by omega, (cut_three z hX hI).1]
theorem fine_cut {h n K S a : Nat} {X I : List Nat} (z sn : Nat) (hX : X.length = K) (hI : I.length = S) (hS : mSize h = S) (hN : lenP n = K + S + 1) (ha : K = a + 1 + sn) :
    fineP h sn (X ++ I ++ [z]) n = true ↔ z = 188 ∧ X[0]?.getD 0 &&& (255 ^^^ lowP n) = 0 ∧ (Oc.bareL (u8s ((maskedP h X I n).take a))).length = 0 ∧ (((maskedP h X I n).drop a).take 1)[0]?.getD 0 = 1 := by
  obtain ⟨h1, h2, h3⟩ := cut_three z hX hI
  unfold fineP testsP
  dsimp only
  rw [hS, hN, show K + S + 1 - S - 1 = K by omega, show K - sn - 1 = a by omega, h1, h2, h3]
  simp only [List.all_cons, List.all_nil, id_eq, Bool.and_true, Bool.true_and, Bool.and_eq_true, beq_iff_eq]
  rfl
theorem room_parts {h : Nat} {sn : Nat} {n : Nat} (hr : RoomP (h : Int) (sn : Int) (n : Int)) : ∃ K S a, mSize h = S ∧ lenP n = K + S + 1 ∧ K = a + 1 + sn := by
  obtain ⟨-, -, -, -, hfit⟩ := hr
  rw [Int.toNat_natCast, Int.toNat_natCast] at hfit
  exact ⟨lenP n - mSize h - 1, mSize h, lenP n - mSize h - 1 - sn - 1, rfl, by omega, by omega⟩
theorem block_fits (n a : Nat) (s : List Nat) : FitsP (lowP n) (List.replicate a 0 ++ [1] ++ s) := by
  cases a with
  | succ a => simp [FitsP, List.replicate_succ]
  | zero =>
    have h2 := lenP_bits n
    have h3 : ∀ k, k < 8 → 1 &&& (255 / 2 ^ k) = 1 := by decide
    have := h3 _ h2.1
    simpa [FitsP, lowP] using this
theorem ems_fine {h : Nat} (hh : IsHash h) (d s : List Nat) {sn n : Nat} (hsl : s.length = sn) (bs : Byt s) (hr : RoomP (h : Int) (sn : Int) (n : Int)) :
    fineP h sn (emsP h d s n) n = true ∧ partI h n (emsP h d s n) = innerP h d s ∧ partS h sn n (emsP h d s n) = s ∧ (emsP h d s n).length = lenP n ∧ Byt (emsP h d s n) := by
  obtain ⟨K, S, a, hS, hN, ha⟩ := room_parts hr
  have he : emsP h d s n = maskedP h (List.replicate a 0 ++ [1] ++ s) (innerP h d s) n ++ innerP h d s ++ [188] := by
    unfold emsP blockP
    rw [hN, hS, hsl, show K + S + 1 - S - 1 - sn - 1 = a by omega]
  have hbl : (List.replicate a 0 ++ [1] ++ s).length = K := by simp [hsl]; omega
  have hX : (maskedP h (List.replicate a 0 ++ [1] ++ s) (innerP h d s) n).length = K := by rw [masked_len hh, hbl]
  have hI : (innerP h d s).length = S := by rw [innerP_len hh, hS]
  have hIb : Byt (innerP h d s) := mHash_byt hh _
  have hBb : Byt (List.replicate a 0 ++ [1] ++ s) := fun x hx => by
    rcases List.mem_append.1 hx with hx | hx
    · rcases List.mem_append.1 hx with hx | hx
      · rw [(List.mem_replicate.1 hx).2]; decide
      · rw [List.mem_singleton.1 hx]; decide
    · exact bs x hx
  have hXb := masked_byt hh (innerP h d s) n hBb
  have hback := masked_back hh (List.replicate a 0 ++ [1] ++ s) (innerP h d s) n (block_fits n a s)
  have hfit := masked_fits h (List.replicate a 0 ++ [1] ++ s) (innerP h d s) n
  rw [he]
  generalize maskedP h (List.replicate a 0 ++ [1] ++ s) (innerP h d s) n = X at *
  generalize innerP h d s = I at *
  refine ⟨?_, part_cut 188 hX hI hS hN, ?_, ?_, ?_⟩
  · refine (fine_cut 188 sn hX hI hS hN ha).2 ⟨rfl, of_fits _ _ ?_ hfit, ?_, ?_⟩
    · cases X with
      | nil => decide
      | cons x r => exact hXb x List.mem_cons_self
    · rw [hback, List.append_assoc, List.take_left' (by simp), bare_noughts _ (fun x hx => by rw [(List.mem_replicate.1 hx).2]; decide), List.length_replicate]
    · rw [hback, List.append_assoc, List.drop_left' (by simp)]
      rfl
  · rw [parts_cut 188 sn hX hI hS hN, hback, List.drop_left' (by simp; omega)]
  · rw [List.length_append, List.length_append, hX, hI, hN]; rfl
  · intro x hx
    rcases List.mem_append.1 hx with hx | hx
    · rcases List.mem_append.1 hx with hx | hx
      · exact hXb x hx
      · exact hIb x hx
    · rw [List.mem_singleton.1 hx]; decide
end Go.Proofs.YtpefjkndfifceaaGreatDoor
namespace Go.Proofs.YtpefjkndfifceaaGreatDoor
open Go.RowKit
attribute [local go_sem] Oper.semAt_some
set_option maxRecDepth 100000
theorem encode_no (h : Int) (da : Option Addr) (dn dc : Nat) (sa : Option Addr) (sn sc : Nat) (n : Int) (hdn : dn ≤ 9223372036854775807) (hsn : sn ≤ 9223372036854775807) (n0 : -9223372036854775808 ≤ n) (n1 : n ≤ 9223372036854775807) (w : World) (hk : Kinds w) (hno : ¬ (RoomP h (sn : Int) n ∧ dn = mSize h.toNat)) :
    Calls Tryz.prog 81 #[.int .i64 h, .slice da dn dc, .slice sa sn sc, .int .i64 n] w fun e w' => e = .returned (.tuple #[.slice none 0 0, .int .i64 90]) ∧ Below w.heap.size w w' := by
  have HK := Lib.hid hk
  clear hk
  by_cases hr : RoomP h (sn : Int) n
  · have HRD := Lib.hid (show decide (RoomP h (sn : Int) n) = true from decide_eq_true hr)
    have hne : dn ≠ mSize h.toNat := fun e => hno ⟨hr, e⟩
    obtain ⟨hh, -⟩ := hr
    obtain ⟨g, rfl⟩ : ∃ g : Nat, h = (g : Int) := ⟨h.toNat, by rcases hh with e | e | e | e <;> omega⟩
    rw [Int.toNat_natCast] at hh hne
    have HH := Lib.hid hh
    have hS := mSize_le hh
    obtain ⟨S, hSS⟩ : ∃ S, mSize g = S := ⟨_, rfl⟩
    rw [hSS] at hne hS
    have HSS := Lib.hid hSS
    have t1 : ((dn : Int) != (S : Int)) = true := by simp; omega
    clear hno hh hSS hne
    go_enter Tryz.func81, Tryz.ntmps81
    go_wp2_with fail
    refine (room_p (g : Int) (sn : Int) n (by omega) (by omega) n0 n1 _ HK.out).mono ?_
    rintro e w1 ⟨rfl, hb⟩
    rw [HRD.out]
    have HB := Lib.hid hb
    clear hb
    go_wp2_with fail
    refine (size_yes g HH.out _ (HK.out.below HB.out)).mono ?_
    rintro e w2 ⟨rfl, hb⟩
    rw [HSS.out]
    have HB := Lib.hid (HB.out.trans (hb.mono HB.out.size))
    clear hb
    go_wp2
    go_ret2
    exact ⟨rfl, HB.out⟩
  · have HRD := Lib.hid (show decide (RoomP h (sn : Int) n) = false from decide_eq_false hr)
    clear hr hno
    go_enter Tryz.func81, Tryz.ntmps81
    go_wp2_with fail
    refine (room_p h (sn : Int) n (by omega) (by omega) n0 n1 _ HK.out).mono ?_
    rintro e w1 ⟨rfl, hb⟩
    rw [HRD.out]
    have HB := Lib.hid hb
    clear hb
    go_wp2
    go_ret2
    exact ⟨rfl, HB.out⟩
theorem PartsAt.kept {bp : Nat} {I s : List Nat} {W W' : World} {row : Option Nat} (h : PartsAt bp I s W) (hg : W.grownBy W' row) (hr : ∀ r, row = some r → ∃ o : Obj, W.heap[r]? = some o ∧ o.isCells = false) : PartsAt bp I s W' := by
  obtain ⟨ia, ic, sa, sc, B, hB, h0, h1, h2, h3⟩ := h
  have hlt := World.block_lt_of_cell? W ⟨bp, 0, none⟩ h0
  have hne : some bp ≠ row := fun e => by
    obtain ⟨o, ho, hc⟩ := hr bp e.symm
    simp only [World.cell?, ho] at h0
    cases o <;> simp [Obj.isCells] at h0 hc
  exact ⟨ia, ic, sa, sc, B, hB, (World.cell?_of_block (a := ⟨bp, 0, none⟩) (hg.block bp hlt hne)).trans h0, (World.cell?_of_block (a := ⟨bp, 1, none⟩) (hg.block bp hlt hne)).trans h1, h2.keptW hg hr, h3.keptW hg hr⟩
def LkI (w : World) (A bw : Nat) (pre : List Bool) (W : World) : Prop :=
  Boxed W bw 4 (.bool false) ∧ W.heap[A]? = some (.cells #[.slice none 0 0, .slice none 0 0] 120) ∧ (∀ x ∈ pre, x = true) ∧ bw < W.heap.size ∧ Below w.heap.size w W
def LkX (w : World) (A bw : Nat) (c : Code) (pre : List Bool) (W : World) : Prop :=
  c = .exit 0 ∧ Boxed W bw 4 (.bool true) ∧ W.heap[A]? = some (.cells #[.slice none 0 0, .slice none 0 0] 120) ∧ (∃ x ∈ pre, x = false) ∧ Below w.heap.size w W
theorem LkI.st {w : World} {A1 : Nat} (hA : w.heap.size < A1) {pre : List Bool} {W W' : World} {row : Option Nat} (h : LkI w w.heap.size (A1 + 1) pre W) (hg : W.grownBy W' row) (hr : ∀ r, row = some r → r = A1 ∨ A1 + 2 ≤ r) : LkI w w.heap.size (A1 + 1) pre W' := by
  obtain ⟨h1, h2, h3, h4, h5⟩ := h
  exact ⟨h1.kept hg fun e => by (rcases hr _ e.symm with h | h <;> omega), (hg.block _ (Array.getElem?_eq_some_iff.1 h2).1 fun e => by (rcases hr _ e.symm with h | h <;> omega)).trans h2, h3, Nat.lt_of_lt_of_le h4 hg.size, h5.grown hg h5.size fun r e => by (rcases hr r e with h | h <;> omega)⟩
theorem LkX.st {w : World} {A1 : Nat} (hA : w.heap.size < A1) {c : Code} {pre : List Bool} {W W' : World} {row : Option Nat} (h : LkX w w.heap.size (A1 + 1) c pre W) (hg : W.grownBy W' row) (hr : ∀ r, row = some r → r = A1 ∨ A1 + 2 ≤ r) : LkX w w.heap.size (A1 + 1) c pre W' := by
  obtain ⟨h0, h1, h2, h3, h5⟩ := h
  exact ⟨h0, h1.kept hg fun e => by (rcases hr _ e.symm with h | h <;> omega), (hg.block _ (Array.getElem?_eq_some_iff.1 h2).1 fun e => by (rcases hr _ e.symm with h | h <;> omega)).trans h2, h3, h5.grown hg h5.size fun r e => by (rcases hr r e with h | h <;> omega)⟩
end Go.Proofs.YtpefjkndfifceaaGreatDoor
