/-
  Layer 8: the pieces of which a mask is made.
-/
import Derived.Test.YtmfjhgjplmpecaaDoorMk4
import Derived.Test.YtmfjhgjplmpecaaDoorSeqM
namespace Go.Proofs.YtmfjhgjplmpecaaDoor
open Go.RowKit Go.Shelf
set_option maxRecDepth 100000

/-- A number's four bytes (below 65536). -/
def be4 (k : Nat) : List Nat := [0, 0, k / 256, k % 256]
theorem be4_byt {k : Nat} (h : k < 65536) : Byt (be4 k) := fun x hx => by
  simp only [be4, List.mem_cons, List.not_mem_nil, or_false] at hx
  omega
def pieceN (h : Nat) (seed : List Nat) (k : Nat) : List Nat := mHash h (seed ++ be4 k)
theorem Reads.same {q : IntKind} {w w' : World} {B : Nat} {a : Option Addr} {n c : Nat} {l : List Nat} (h : Reads q w a n c l) (hb : ∀ k, k < B → w'.heap[k]? = w.heap[k]?) (hs : w.heap.size ≤ w'.heap.size) (ha : 0 < n → ∀ x, a = some x → x.block < B) : Reads q w' a n c l :=
  ⟨h.length, h.le, h.max, h.nil, fun hp => by
    obtain ⟨b, off, rfl, hlt, hc⟩ := h.cells hp
    exact ⟨b, off, rfl, Nat.lt_of_lt_of_le hlt hs, fun i hi => (World.cell?_of_block (a := ⟨b, off + i, .none⟩) (hb b (ha hp _ rfl))).trans (hc i hi)⟩⟩
theorem Kinds.same {w w' : World} (h : Kinds w) (hb : w'.heap[0]? = w.heap[0]?) : Kinds w' := fun i hi => (World.cell?_of_block (a := ⟨0, i, none⟩) hb).trans (h i hi)

theorem pieces_m (w : World) (h : Int) (a : Option Addr) (n c : Nat) : Calls Tryd.prog 30 #[.int .i64 h, .slice a n c] w fun e w' => e = .returned (.func (.func 44) #[] #[.pointer (some ⟨w.heap.size, 0, none⟩), .pointer (some ⟨w.heap.size + 1, 0, none⟩)]) ∧ w' = (w.alloc (.cells #[.int .i64 h] 28)).alloc (.cells #[.slice a n c] 23) := by
  go_enter Tryd.func30, Tryd.ntmps30
  go_wp2
  go_ret
  exact ⟨rfl, rfl⟩

def sdR (a : Option Addr) (ls cs : Nat) (seed : List Nat) (s k : Nat) : Nat → Option Addr × Nat × Nat × List Nat
  | 0 => (a, ls, cs, seed)
  | _ => (some ⟨s, 0, none⟩, 4, 4, be4 k)
def GdP (h : Nat) (seed : List Nat) (pre : List (Addr × Nat)) (x : Addr × Nat) (X : World) : Prop := Reads .u8 X (some x.1) (mSize h) x.2 (pieceN h seed pre.length)
set_option maxHeartbeats 4000000 in
theorem pieces_come_m (n : Nat) (hn : 1 ≤ n) (h : Nat) (hh : IsHash h) (a : Option Addr) (ls cs : Nat) (seed : List Nat) (N B bh bs : Nat) (hN : N ≤ 60000) (w : World) (hk : Kinds w) (hGB : 0 < B) (hr : Reads .u8 w a ls cs seed) (hsb : Byt seed) (hls : ls ≤ 1048000) (hab : 0 < ls → ∀ x, a = some x → x.block < B)
    (hbh : Boxed w bh 28 (.int .i64 (h : Int))) (hbs : Boxed w bs 23 (.slice a ls cs)) (hBw : B ≤ w.heap.size) :
    SeqM (fun k => k < B ∨ k = bh ∨ k = bs) Fence.wide n Tryd.prog 44 #[.pointer (some ⟨bh, 0, none⟩), .pointer (some ⟨bs, 0, none⟩)] (fun x : Addr × Nat => #[.slice (some x.1) (mSize h) x.2]) (GdP h seed) N w := fun lp J Jx W hbel hJ hJx hJN hY h0 => by
  have HJ := Lib.hid hJ
  have HJN := Lib.hid hJN
  have HH := Lib.hid hh
  have HY := Lib.hid hY
  have HJ0 := Lib.hid h0
  have HKW := Lib.hid (hk.below hbel)
  have HRW := Lib.hid (hr.below hbel)
  have HBH := Lib.hid (show Boxed W bh 28 (.int .i64 (h : Int)) from (hbel.block bh hbh.lt).trans hbh)
  have HBS := Lib.hid (show Boxed W bs 23 (.slice a ls cs) from (hbel.block bs hbs.lt).trans hbs)
  have HSB := Lib.hid hsb
  have HAB := Lib.hid hab
  have hBW : B ≤ W.heap.size := Nat.le_trans hBw hbel.size
  have hhW : bh < W.heap.size := HBH.out.lt
  have hsW : bs < W.heap.size := HBS.out.lt
  have hh4 := isHash_lt hh
  have HKP := Lib.hid (KpR.refl (fun k => k < B ∨ k = bh ∨ k = bs) W)
  clear hJ hJN hh hY h0 hk hr hbh hbs hsb hab hbel
  refine callsIn_of_wp Tryd.func44 rfl trivial ?_ rfl
  simp only [Tryd.ntmps44, List.size_toArray, List.length_cons, List.length_nil, Nat.reduceAdd, Nat.reduceSub, Array.replicate_succ, Array.replicate_zero, List.push_toArray, List.append_toArray, List.nil_append, List.cons_append]
  gi_wp2_with fail
  gi_loopw [4] (fun nv wr => ∃ k : Nat, nv = .int .u32 (k : Int) ∧ Hid (∃ pre, pre.length = k ∧ J pre wr ∧ KpR (fun k => k < B ∨ k = bh ∨ k = bs) W wr)) (fun nv _ => N - (intOf nv).toNat)
  case atStart => exact ⟨0, rfl, [], rfl, HJ0.out, HKP.out⟩
  case round =>
    obtain ⟨k, rfl, hI⟩ := hrel
    obtain ⟨pre, hpl, hj, hkp⟩ := hI.out
    have hkN : k < N := by rw [← hpl]; exact HJN.out _ _ hj
    have HJ1 := Lib.hid hj
    have HP1 := Lib.hid hkp
    have HPL := Lib.hid hpl
    have BH := (show Boxed wr bh 28 (.int .i64 (h : Int)) from (hkp.2 bh (.inr (.inl rfl))).trans HBH.out)
    have BS := (show Boxed wr bs 23 (.slice a ls cs) from (hkp.2 bs (.inr (.inr rfl))).trans HBS.out)
    have HKR := Lib.hid (HKW.out.same (hkp.2 _ (.inl hGB)))
    have HRR := Lib.hid (HRW.out.same (B := B) (fun z hz => hkp.2 z (.inl hz)) hkp.1 HAB.out)
    have cH := BH.cell
    have cS := BS.cell
    have s24 : (k : Int) / 16777216 = 0 := by omega
    have s16 : (k : Int) / 65536 = 0 := by omega
    obtain ⟨q, hq⟩ : ∃ q, q = k / 256 := ⟨_, rfl⟩
    obtain ⟨r, hr⟩ : ∃ r, r = k % 256 := ⟨_, rfl⟩
    have s8 : (k : Int) / 256 = (q : Int) := by omega
    have hq256 : q < 256 := by omega
    have w8 : IntKind.u8.wrap (q : Int) = (q : Int) := by rw [IntKind.wrap_u8]; omega
    have w0 : IntKind.u8.wrap (k : Int) = (r : Int) := by rw [IntKind.wrap_u8]; omega
    have HBE := Lib.hid (show be4 k = [0, 0, q, r] by rw [hq, hr]; rfl)
    clear hI hpl hj hkp BH BS hq hr
    have hN2 : k < 65536 := by omega
    have HRW2 := Lib.hid (show ∀ z, z < 2 → Reads .u8 (wr.alloc (.cells #[.int .u8 0, .int .u8 0, .int .u8 (q : Int), .int .u8 (r : Int)] 5)) (sdR a ls cs seed wr.heap.size k z).1 (sdR a ls cs seed wr.heap.size k z).2.1 (sdR a ls cs seed wr.heap.size k z).2.2.1 (sdR a ls cs seed wr.heap.size k z).2.2.2 ∧ Byt (sdR a ls cs seed wr.heap.size k z).2.2.2 ∧ (sdR a ls cs seed wr.heap.size k z).2.1 ≤ 1048576 from fun z hz => by
      rcases (show z = 0 ∨ z = 1 by omega) with rfl | rfl
      · exact ⟨HRR.out.below ((Below.refl _ _).alloc (Nat.le_refl _) _), HSB.out, by show ls ≤ 1048576; omega⟩
      · refine ⟨Reads.litM .u8 wr 5 (be4 k) _ 4 (by rw [HBE.out]; simp [num]) rfl (by rw [HBE.out]; unfold maxLen; simp), be4_byt hN2, (by decide : 4 ≤ 1048576)⟩)
    gi_wp2_with fail
    refine ⟨trivial, ?_⟩
    have hrows := rows_alloc (E := 23) (wr.alloc (.cells #[.int .u8 0, .int .u8 0, .int .u8 (q : Int), .int .u8 (r : Int)] 5)) (wr.alloc (.cells #[.int .u8 0, .int .u8 0, .int .u8 (q : Int), .int .u8 (r : Int)] 5)) #[.slice a ls cs, .slice (some ⟨wr.heap.size, 0, none⟩) 4 4] 2 (sdR a ls cs seed wr.heap.size k) (Below.refl _ _) HRW2.out (fun z hz => by rcases (show z = 0 ∨ z = 1 by omega) with rfl | rfl <;> rfl)
    rw [World.size_alloc] at hrows
    refine (callsIn_wide.2 (sum_yes h HH.out (some ⟨wr.heap.size + 1, 0, none⟩) 2 2 (sdR a ls cs seed wr.heap.size k) _ (HKR.out.below (((Below.refl _ _).alloc (Nat.le_refl _) _).alloc (by simp) _)) hrows (by decide))).mono ?_
    rintro e w1 ⟨⟨ad, c, rfl, h1, h2⟩, h3⟩
    have hb1 : Below wr.heap.size wr w1 := (((Below.refl wr.heap.size wr).alloc (Nat.le_refl _) _).alloc (by simp) _).trans (h3.mono (by simp; omega))
    have J1 := HJ.out _ _ _ HJ1.out (grown_below hb1 none)
    have hgd : GdP h seed pre (ad, c) w1 := by
      show Reads .u8 w1 (some ad) (mSize h) c (mHash h (seed ++ be4 pre.length))
      rw [HPL.out]
      exact h1
    have HP2 := Lib.hid (HP1.out.trans (KpR.grown (R := fun k => k < B ∨ k = bh ∨ k = bs) (grown_below hb1 none) (fun z hz => by have := HP1.out.1; rcases hz with hz | rfl | rfl <;> omega) (fun r e => by cases e)))
    obtain ⟨fn, tmps, assign, body, hy, hR⟩ := HY.out pre (ad, c) w1 J1 hgd
    have HR := Lib.hid hR
    clear hrows h1 h2 h3 hb1 J1 hgd hR cH cS
    gi_wp2_with fail
    refine HR.out.mono ?_
    rintro e W3 (⟨rfl, hJ3, hk3⟩ | ⟨rfl, hx3⟩)
    · have J3 := Lib.hid hJ3
      have HP3 := Lib.hid (HP2.out.trans hk3)
      clear hJ3 hk3
      gi_wp2
      go_roundw
      case rel => exact ⟨k + 1, by go_num, pre ++ [(ad, c)], by rw [List.length_append, HPL.out]; rfl, J3.out, HP3.out⟩
      case measure => simp [intOf]; omega
    · have HX3 := Lib.hid hx3
      clear hx3
      gi_wp2
      refine bodyPost_ret (results_none rfl _ _ _) rfl ?_
      exact ⟨⟨_, rfl⟩, _, HX3.out⟩

end Go.Proofs.YtmfjhgjplmpecaaDoor
